/-
  httpd's reference: a body in chunks.; httpd's reference: what stands behind a head.
-/
import Derived.Test.YtonaekkenggmbaaGreatDoorPkHtesbd
import Derived.Test.YtonaekkenggmbaaGreatDoorPkHtesbn
section
set_option linter.unusedVariables false
set_option maxRecDepth 1000000
namespace Go.Proofs.YtonaekkenggmbaaGreatDoor
open Go.RowKit

/-- A body in chunks, how many bytes it takes, the status. -/
def chR (s : List UInt8) : List UInt8 × Nat × Nat := if (runM RM (.chunk 0 0) (qb []) s).2.1 = 0 then ((runM RM (.chunk 0 0) (qb []) s).2.2.2.b, (runM RM (.chunk 0 0) (qb []) s).1, 0) else ([], 0, (runM RM (.chunk 0 0) (qb []) s).2.1)
theorem cut_mid (s : List UInt8) (a n : Nat) : (str s).extract a (a + n) = str ((s.drop a).take n) := by
  have := ByteArray.extract_mk s a (a + n)
  simpa [str, List.extract_eq_take_drop] using this
/-- What the reference keeps of a chunk's reading, to its end. -/
theorem chunkE8 {s : List UInt8} {y : Nat × Nat × St × Rq} {B : List UInt8} {a n d : Nat} (h : RR s y (.chunk n d) B a) (hd : 0 < d) (hx : ∀ c, s[a]? = some c → hexB c = none) (he : enM s a = 0) :
    a + 2 ≤ s.length ∧ (32768 - B.length < n → y.2.1 = 413) ∧ (¬ 32768 - B.length < n → (s.length - (a + 2) < n → y.2.1 = 1) ∧ (n ≤ s.length - (a + 2) → (enM s (a + 2 + n) ≠ 0 → y.2.1 = enM s (a + 2 + n)) ∧ (enM s (a + 2 + n) = 0 → a + 2 + n + 2 ≤ s.length ∧ (n = 0 → y.1 = a + 2 + n + 2 ∧ y.2.1 = 0 ∧ y.2.2.2.b = B ++ (s.drop (a + 2)).take n) ∧ (n ≠ 0 → RR s y (.chunk 0 0) (B ++ (s.drop (a + 2)).take n) (a + 2 + n + 2))))) := by
  obtain ⟨h1, h2, h3⟩ := (h.line hd hx).2 he
  refine ⟨h1, h2, fun hb => ?_⟩
  obtain ⟨h4, h5⟩ := h3 hb
  by_cases hn : n = 0
  · subst hn
    have h6 := (h4 rfl).crlf
    refine ⟨fun e => by omega, fun _ => ⟨h6.1, fun e => ?_⟩⟩
    obtain ⟨k1, k2, k3⟩ := h6.2 e
    refine ⟨k1, fun _ => ?_, fun e => absurd rfl e⟩
    obtain ⟨m1, m2, m3⟩ := k2 rfl
    exact ⟨m1, m2, by rw [m3]; simp [qb]⟩
  · obtain ⟨k1, k2⟩ := RR.bytes n (h5 hn) (by omega)
    refine ⟨k1, fun e => ?_⟩
    have h6 := (k2 e).crlf
    refine ⟨h6.1, fun e => ?_⟩
    obtain ⟨m1, _, m3⟩ := h6.2 e
    exact ⟨m1, fun e => absurd e hn, fun _ => m3 rfl⟩
set_option maxHeartbeats 4000000 in
theorem chunks8 (s : List UInt8) (w : World) (hs : s.length ≤ 140737488353280) :
    Calls Tryz.prog 101 #[.string (str s)] w fun e w' => ∃ x cx B, ∃ n st : Nat, e = .returned (.tuple #[.slice x B.length cx, .int .i64 (n : Int), .int .i64 (st : Int)]) ∧ Hid ((B, n, st) = chR s) ∧ Hid (Bs w' x cx B ∧ ∀ k, blk x = some k → w.heap.size ≤ k) ∧ Hid (Below w.heap.size w w') := by
  have z1 : (str s).size = s.length := str_size s
  obtain ⟨y, hy⟩ : ∃ y, y = runM RM (.chunk 0 0) (qb []) s := ⟨_, rfl⟩
  have HR0 : Hid (RR s y (.chunk 0 0) [] 0) := by show _ = _; rw [hy]; rfl
  have HBAD : Hid (∀ st, y.2.1 = st → st ≠ 0 → ([], 0, st) = chR s) := fun st h h0 => by
    unfold chR
    rw [← hy, h, if_neg h0]
  have HGOOD : Hid (y.2.1 = 0 → (y.2.2.2.b, y.1, 0) = chR s) := fun h => by
    unfold chR
    rw [← hy, h, if_pos rfl]
  clear hy
  go_enter Tryz.func101, Tryz.ntmps101
  go_wp2
  go_loopw [5, 6] (fun v5 v6 wr => ∃ (a : Nat) (x : Option Addr) (cx : Nat) (B : List UInt8), a ≤ s.length ∧ B.length ≤ 32768 ∧ v5 = .slice x B.length cx ∧ v6 = .int .i64 (a : Int) ∧ Hid (RR s y (.chunk 0 0) B a) ∧ Hid (OwnB wr w.heap.size x cx B) ∧ Hid (Below w.heap.size w wr)) (fun _ v6 _ => s.length - (intOf v6).toNat)
  case atStart => exact ⟨0, none, 0, [], Nat.zero_le _, by simp, rfl, rfl, HR0, OwnB.nil _ _, Below.refl _ _⟩
  case round =>
    clear HR0
    obtain ⟨a0, x, cx, B, ha0, hBl, rfl, rfl, HR, HO, HB⟩ := hrel
    obtain ⟨u, rfl⟩ : ∃ u, u = wr := ⟨_, rfl⟩
    go_wp2
    go_loopw [6, 7, 8] (fun v6 v7 v8 wr => ∃ (a n d : Nat), a ≤ s.length ∧ a0 ≤ a ∧ d ≤ 8 ∧ n < 4294967296 ∧ v6 = .int .i64 (a : Int) ∧ v7 = .int .i64 (n : Int) ∧ v8 = .int .i64 (d : Int) ∧ Hid (n < 16 ^ d ∧ (0 < d → a0 < a)) ∧ Hid (RR s y (.chunk n d) B a) ∧ Hid (OwnB wr w.heap.size x cx B) ∧ Hid (Below w.heap.size w wr)) (fun v6 _ _ _ => s.length - (intOf v6).toNat)
    case atStart => exact ⟨a0, 0, 0, ha0, Nat.le_refl _, by decide, by decide, rfl, rfl, rfl, ⟨by decide, fun h => by omega⟩, HR, HO, HB⟩
    case round =>
      clear HR HO HB
      obtain ⟨a, n, d, ha, haa, hd, hn32, rfl, rfl, rfl, HND, HR, HO, HB⟩ := hrel
      by_cases hlt : a < s.length
      · have hlt' : (a : Int) < (s.length : Int) := by omega
        obtain ⟨c, hc⟩ : ∃ c, s.getD a 0 = c := ⟨_, rfl⟩
        have hix : ∀ w, (Instr.index 9 (.string (str s)) (.int .i64 (a : Int))).run Tryz.prog w = .ok (.int .u8 (c.toNat : Int)) w := fun w => by rw [← hc]; exact run_ixs w s a hlt
        have HC : Hid (s[a]? = some c) := by show _ = _; rw [gd_get s a hlt, hc]
        have HHX : Hid (∀ w, Calls Tryz.prog 123 #[.int .u8 (c.toNat : Int)] w fun e w' => e = .returned (.int .i64 (hxM c : Int)) ∧ Hid (Below w.heap.size w w')) := fun w => hex8 c w
        clear hc
        cases hh : hexB c with
        | some z =>
          have hz16 : z < 16 := hexB_lt c z hh
          have hxm : hxM c = z := by unfold hxM; rw [hh]
          rw [hxm] at HHX
          have HH := hide hh
          have hz' : (z : Int) < 16 := by omega
          clear hxm hh
          go_wp2_with fail
          refine (unhide HHX _).mono ?_
          rintro e w1 ⟨rfl, HB1⟩
          go_wp2_with fail
          refine (unhide HHX _).mono ?_
          rintro e w2 ⟨rfl, HB2⟩
          have HO2 := hide (((unhide HO).below (unhide HB1) (Nat.le_refl _)).below (unhide HB2) (Nat.le_refl _))
          have HBw : Hid (Below w.heap.size w w2) := ((unhide HB).trans ((unhide HB1).mono (unhide HB).size)).trans ((unhide HB2).mono (Nat.le_trans (unhide HB).size (unhide HB1).size))
          clear HB1 HB2 HO HB HHX
          by_cases h8 : d < 8
          · have h8' : ¬ (8 : Int) < (d : Int) + 1 := by omega
            have HR2 := hide ((unhide HR).digit (unhide HC) (unhide HH) h8)
            have hp : n * 16 + z < 16 ^ (d + 1) := by
              have := (unhide HND).1
              rw [Nat.pow_succ]
              omega
            have hp32 : n * 16 + z < 4294967296 := by
              have h1 : 16 ^ (d + 1) ≤ 16 ^ 8 := Nat.pow_le_pow_right (by decide) (by omega)
              have h2 : (16 : Nat) ^ 8 = 4294967296 := by decide
              omega
            go_wp2
            go_roundw
            case rel => exact ⟨a + 1, n * 16 + z, d + 1, by omega, by omega, by omega, hp32, by go_num, by congr 1; omega, by go_num, ⟨hp, fun _ => by omega⟩, HR2, HO2, HBw⟩
            case measure => simp [intOf]; omega
          · have h8' : (8 : Int) < (d : Int) + 1 := by omega
            have HY : Hid (y.2.1 = 400) := (unhide HR).nine (unhide HC) (unhide HH) h8
            go_wp2
            go_ret3
            exact ⟨none, 0, [], 0, 400, rfl, hide (unhide HBAD 400 (unhide HY) (by decide)), ⟨bs_none _, fun k hk => by simp [blk] at hk⟩, HBw⟩
        | none =>
          have hxm : hxM c = 16 := by unfold hxM; rw [hh]
          rw [hxm] at HHX
          have HH : Hid (∀ c', s[a]? = some c' → hexB c' = none) := fun c' h => by rw [unhide HC] at h; cases h; exact hh
          clear hxm
          go_wp2_with fail
          refine (unhide HHX _).mono ?_
          rintro e w1 ⟨rfl, HB1⟩
          have HO1 := hide ((unhide HO).below (unhide HB1) (Nat.le_refl _))
          have HBw : Hid (Below w.heap.size w w1) := (unhide HB).trans ((unhide HB1).mono (unhide HB).size)
          clear HB1 HO HB HHX
          by_cases hd0 : d = 0
          · have HY : Hid (y.2.1 = 400) := (unhide HR).nocr (unhide HC) hh (fun e => by omega)
            have ed : ((d : Int) == 0) = true := by rw [beq_iff_eq]; omega
            clear hd0 hh
            go_wp2
            go_ret3
            exact ⟨none, 0, [], 0, 400, rfl, hide (unhide HBAD 400 (unhide HY) (by decide)), ⟨bs_none _, fun k hk => by simp [blk] at hk⟩, HBw⟩
          · have ed : ((d : Int) == 0) = false := by rw [beq_eq_false_iff_ne]; omega
            have HLN := hide ((unhide HR).line (by omega) (unhide HH))
            have HCE := hide (chunkE8 (unhide HR) (by omega) (unhide HH))
            have HE1 := hide (ends8 s a w1 hs (by omega))
            have haa2 : a0 < a := (unhide HND).2 (by omega)
            clear hd0 hh
            obtain ⟨E, hE⟩ : ∃ E, E = enM s a := ⟨_, rfl⟩
            rw [← hE] at HE1 HLN HCE
            clear hE
            go_wp2_with fail
            refine (unhide HE1).mono ?_
            rintro e w2 ⟨rfl, HB2⟩
            have HO2 := hide ((unhide HO1).below (unhide HB2) (Nat.le_refl _))
            have HBw2 : Hid (Below w.heap.size w w2) := (unhide HBw).trans ((unhide HB2).mono (unhide HBw).size)
            clear HE1 HB2 HO1 HBw
            by_cases hE0 : E = 0
            · subst hE0
              obtain ⟨hl2, h413, hgo⟩ := unhide HCE rfl
              clear HCE HLN
              by_cases hbig : 32768 - B.length < n
              · have HY := hide (h413 hbig)
                have hbig' : (32768 : Int) - (B.length : Int) < (n : Int) := by omega
                clear hgo h413
                go_wp2
                go_ret3
                exact ⟨none, 0, [], 0, 413, rfl, hide (unhide HBAD 413 (unhide HY) (by decide)), ⟨bs_none _, fun k hk => by simp [blk] at hk⟩, HBw2⟩
              · have hbig' : ¬ (32768 : Int) - (B.length : Int) < (n : Int) := by omega
                obtain ⟨hmore, hon⟩ := hgo hbig
                clear h413 hgo
                by_cases hsh : s.length - (a + 2) < n
                · have HY := hide (hmore hsh)
                  have hsh' : (s.length : Int) - ((a : Int) + 2) < (n : Int) := by omega
                  clear hmore hon
                  go_wp2
                  go_ret3
                  exact ⟨none, 0, [], 0, 1, rfl, hide (unhide HBAD 1 (unhide HY) (by decide)), ⟨bs_none _, fun k hk => by simp [blk] at hk⟩, HBw2⟩
                · have hsh' : ¬ (s.length : Int) - ((a : Int) + 2) < (n : Int) := by omega
                  obtain ⟨hend1, hend2⟩ := hon (by omega)
                  have e1 : (str s).extract (a + 2) (a + 2 + n) = str ((s.drop (a + 2)).take n) := cut_mid s (a + 2) n
                  obtain ⟨T, hT⟩ : ∃ T, T = (s.drop (a + 2)).take n := ⟨_, rfl⟩
                  rw [← hT] at e1 hend2
                  have hTl : T.length = n := by rw [hT]; simp; omega
                  have zT : (str T).size = T.length := str_size T
                  have HEN := hide (And.intro hend1 hend2)
                  clear hmore hon hend1 hend2 hT
                  have HTL := hide hTl
                  have hTl2 : T.length ≤ 32768 := by omega
                  have hTl3 : B.length + T.length ≤ 32768 := by omega
                  clear hTl
                  have hap : Hid (B.length + (str T).size ≤ 140737488355328) := by show _ ≤ _; rw [zT]; omega
                  have hz2 : Hid (w.heap.size ≤ w2.heap.size) := (unhide HBw2).size
                  go_wp2_with (at_builtin; refine wp_apps _ rfl _ _ rfl w.heap.size x cx B rfl (unhide HO2) (str T) (congrArg Value.string e1) (unhide hap) (unhide hz2) ?_)
                  intro x' cx' B' w3 hB' hO' hg'
                  have HB' : Hid (B' = B ++ T) := unhide hB'
                  have HBw3 : Hid (Below w.heap.size w w3) := below_grown (a := x) (unhide HBw2) hg' (Nat.le_refl _) (fun k hk => ((unhide HO2).lt k hk).1)
                  have HO3 := hide hO'
                  have HE2 := hide (ends8 s (a + 2 + n) w3 hs (by omega))
                  obtain ⟨E2, hE2⟩ : ∃ E2, E2 = enM s (a + 2 + n) := ⟨_, rfl⟩
                  rw [← hE2] at HE2 HEN
                  have hcast : ((a + 2 + n : Nat) : Int) = (a : Int) + 2 + (n : Int) := by omega
                  rw [hcast] at HE2
                  clear hE2 hB' hO' hg' HO2 HBw2 hcast
                  have hB'l : B'.length ≤ 32768 := by rw [unhide HB', List.length_append]; exact hTl3
                  go_wp2_with fail
                  refine (unhide HE2).mono ?_
                  rintro e w4 ⟨rfl, HB4⟩
                  have HO4 := hide ((unhide HO3).below (unhide HB4) (Nat.le_refl _))
                  have HBw4 : Hid (Below w.heap.size w w4) := (unhide HBw3).trans ((unhide HB4).mono (unhide HBw3).size)
                  clear HE2 HB4 HO3 HBw3
                  by_cases hE20 : E2 = 0
                  · subst hE20
                    obtain ⟨hl4, hz, hnz⟩ := (unhide HEN).2 rfl
                    by_cases hn0 : n = 0
                    · have en : ((n : Int) == 0) = true := by rw [beq_iff_eq]; omega
                      have HY : Hid ((B', a + 2 + n + 2, 0) = chR s) := by
                        obtain ⟨m1, m2, m3⟩ := hz hn0
                        have := unhide HGOOD m2
                        rw [m1, m3] at this
                        rw [unhide HB']; exact this
                      clear hz hnz hn0
                      go_wp2
                      go_ret3
                      exact ⟨x', cx', B', a + 2 + n + 2, 0, rfl, HY, ⟨(unhide HO4).toBs, fun k hk => ((unhide HO4).lt k hk).1⟩, HBw4⟩
                    · have en : ((n : Int) == 0) = false := by rw [beq_eq_false_iff_ne]; omega
                      have HR2 : Hid (RR s y (.chunk 0 0) B' (a + 2 + n + 2)) := by rw [unhide HB']; exact hnz hn0
                      clear hz hnz hn0
                      go_wp2
                      go_roundw
                      case rel => exact ⟨a + 2 + n + 2, x', cx', B', by omega, hB'l, rfl, by congr 1, HR2, HO4, HBw4⟩
                      case measure => simp [intOf]; omega
                  · have en : ((E2 : Int) != 0) = true := by rw [bne_iff_ne]; omega
                    have HY := hide ((unhide HEN).1 hE20)
                    have HE20 := hide hE20
                    clear hE20
                    go_wp2
                    go_ret3
                    exact ⟨none, 0, [], 0, E2, rfl, hide (unhide HBAD E2 (unhide HY) (unhide HE20)), ⟨bs_none _, fun k hk => by simp [blk] at hk⟩, HBw4⟩
            · have en : ((E : Int) != 0) = true := by rw [bne_iff_ne]; omega
              have HY := hide ((unhide HLN).1 hE0)
              have HE0 := hide hE0
              clear hE0
              go_wp2
              go_ret3
              exact ⟨none, 0, [], 0, E, rfl, hide (unhide HBAD E (unhide HY) (unhide HE0)), ⟨bs_none _, fun k hk => by simp [blk] at hk⟩, HBw2⟩
      · obtain rfl : a = s.length := by omega
        have HY : Hid (y.2.1 = 1) := (unhide HR).fin (Nat.le_refl _)
        have HE1 := hide (ends8 s s.length wr hs (by omega))
        have hE : enM s s.length = 1 := by unfold enM; rw [if_pos (Nat.le_refl _)]
        rw [hE] at HE1
        have hlt' : ¬ (s.length : Int) < (s.length : Int) := by omega
        clear hlt hE
        go_wp2_with fail
        refine (unhide HE1).mono ?_
        rintro e w2 ⟨rfl, HB2⟩
        have HBw2 : Hid (Below w.heap.size w w2) := (unhide HB).trans ((unhide HB2).mono (unhide HB).size)
        go_wp2
        go_ret3
        exact ⟨none, 0, [], 0, 1, rfl, hide (unhide HBAD 1 (unhide HY) (by decide)), ⟨bs_none _, fun k hk => by simp [blk] at hk⟩, HBw2⟩
#print axioms chunks8
end Go.Proofs.YtonaekkenggmbaaGreatDoor
end
section
set_option linter.unusedVariables false
set_option maxRecDepth 1000000
namespace Go.Proofs.YtonaekkenggmbaaGreatDoor
open Go.RowKit

def bd8 (F : Fm × Nat) (s : List UInt8) : List UInt8 × Nat × Nat :=
  if F.2 ≠ 0 then ([], 0, F.2) else if F.1.c then chR s else if s.length < F.1.n then ([], 0, 1) else (s.take F.1.n, F.1.n, 0)
def bdM (H : List Hd) (s : List UInt8) : List UInt8 × Nat × Nat := bd8 (fmM (valE wTE H) (valE wHost H) (valE wCL H)) s
theorem ownN_zero {w : World} {base : Nat} {a : Option Addr} {cap : Nat} {l : List (List UInt8)} (h : OwnN w base a cap l) (hl : l.length = 1) : ∃ g, a = some ⟨g, 0, none⟩ ∧ w.cell? ⟨g, 0, none⟩ = some (.string (str (l.getD 0 []))) ∧ 1 ≤ cap := by
  obtain ⟨g, e, _, _, hc⟩ := h.some (by omega)
  exact ⟨g, e, hc 0 (by omega), by have := h.le; omega⟩
set_option maxHeartbeats 4000000 in
theorem body8 (p : Option Addr) (cp : Nat) (H : List Hd) (s : List UInt8) (w : World) (hH : HdR w p H) (hl : H.length ≤ 32) (hv : ∀ h ∈ H, h.2.length ≤ 1000000) (hs : s.length ≤ 140737488353280) :
    Calls Tryz.prog 76 #[.slice p H.length cp, .string (str s)] w fun e w' => ∃ x cx B, ∃ n st : Nat, e = .returned (.tuple #[.slice x B.length cx, .int .i64 (n : Int), .int .i64 (st : Int)]) ∧ Hid ((B, n, st) = bdM H s) ∧ Hid (Bs w' x cx B ∧ ∀ k, blk x = some k → w.heap.size ≤ k) ∧ Hid (Below w.heap.size w w') := by
  have z1 : (str s).size = s.length := str_size s
  have HV1 : Hid (Calls Tryz.prog 100 #[.slice p H.length cp, .string ⟨#[116, 114, 97, 110, 115, 102, 101, 114, 45, 101, 110, 99, 111, 100, 105, 110, 103]⟩] w fun e w' => ∃ a c L, e = .returned (.slice a L.length c) ∧ Hid (L = valE wTE H) ∧ Hid (OwnN w' w.heap.size a c L) ∧ Hid (Below w.heap.size w w')) := values8 wTE p cp H w hH (by omega)
  have HV2 : Hid (∀ w', HdR w' p H → Calls Tryz.prog 100 #[.slice p H.length cp, .string ⟨#[104, 111, 115, 116]⟩] w' fun e w'' => ∃ a c L, e = .returned (.slice a L.length c) ∧ Hid (L = valE wHost H) ∧ Hid (OwnN w'' w'.heap.size a c L) ∧ Hid (Below w'.heap.size w' w'')) := fun w' h => values8 wHost p cp H w' h (by omega)
  have HV3 : Hid (∀ w', HdR w' p H → Calls Tryz.prog 100 #[.slice p H.length cp, .string ⟨#[99, 111, 110, 116, 101, 110, 116, 45, 108, 101, 110, 103, 116, 104]⟩] w' fun e w'' => ∃ a c L, e = .returned (.slice a L.length c) ∧ Hid (L = valE wCL H) ∧ Hid (OwnN w'' w'.heap.size a c L) ∧ Hid (Below w'.heap.size w' w'')) := fun w' h => values8 wCL p cp H w' h (by omega)
  have HHd := hide hH
  have hmem : ∀ nm, ∀ x ∈ valE nm H, x.length ≤ 1000000 := fun nm x hx => by
    obtain ⟨h, h1, rfl⟩ := List.mem_map.1 hx
    exact hv h (List.mem_filter.1 h1).1
  have HT : Hid ((∀ x ∈ valE wTE H, x.length ≤ 1000000) ∧ (∀ x ∈ valE wCL H, x.length ≤ 1000000)) := ⟨hmem _, hmem _⟩
  have HLn : Hid ((valE wTE H).length ≤ 32 ∧ (valE wHost H).length ≤ 32 ∧ (valE wCL H).length ≤ 32) := ⟨Nat.le_trans (valE_len _ _) hl, Nat.le_trans (valE_len _ _) hl, Nat.le_trans (valE_len _ _) hl⟩
  obtain ⟨X, hX⟩ : ∃ X, X = bdM H s := ⟨_, rfl⟩
  rw [← hX]
  unfold bdM at hX
  generalize valE wTE H = te at *
  generalize valE wHost H = ho at *
  generalize valE wCL H = cl at *
  have HX := hide hX
  have HCH := hide (chunks8 s)
  clear hX hH hmem hv
  go_enter Tryz.func76, Tryz.ntmps76
  go_wp2_with fail
  refine (unhide HV1).mono ?_
  rintro e w1 ⟨a1, c1, te', rfl, h1, HO1, HB1⟩
  obtain rfl := unhide h1
  clear h1 HV1
  go_wp2_with fail
  refine (unhide HV2 w1 ((unhide HHd).below (unhide HB1) (Nat.le_refl _))).mono ?_
  rintro e w2 ⟨a2, c2, ho', rfl, h1, HO2, HB2'⟩
  obtain rfl := unhide h1
  have HB2 : Hid (Below w.heap.size w w2) := (unhide HB1).trans ((unhide HB2').mono (unhide HB1).size)
  have HO1b := hide ((unhide HO1).below (unhide HB2') (Nat.le_refl _))
  clear h1 HV2 HB2' HB1 HO1
  go_wp2_with fail
  refine (unhide HV3 w2 ((unhide HHd).below (unhide HB2) (Nat.le_refl _))).mono ?_
  rintro e w3 ⟨a3, c3, cl', rfl, h1, HO3, HB3'⟩
  obtain rfl := unhide h1
  have HB3 : Hid (Below w.heap.size w w3) := (unhide HB2).trans ((unhide HB3').mono (unhide HB2).size)
  have HO1c := hide ((unhide HO1b).below (unhide HB3') (Nat.le_refl _))
  have HO2c := hide ((unhide HO2).below (unhide HB3') (Nat.le_refl _))
  clear h1 HV3 HB3' HB2 HO1b HO2 HHd
  obtain ⟨hl1, hl2, hl3⟩ := unhide HLn
  clear HLn
  -- behind the coding's test
  have key : ∀ (w4 : World), Hid (Below w3.heap.size w3 w4) → ∀ tl : Nat, tl = te'.length → tl ≤ 1 → (tl = 1 → sm (te'.getD 0 []) = wChk) → True := fun _ _ _ _ _ _ => trivial
  clear key
  by_cases h501 : 1 < te'.length
  · have f1 : (1 : Int) < (te'.length : Int) := by omega
    have HX2 : Hid (X = ([], 0, 501)) := by
      show _ = _
      rw [unhide HX]
      unfold fmM
      rw [if_pos (by simp [h501])]
      rfl
    clear h501
    go_wp2
    go_ret3
    exact ⟨none, 0, [], 0, 501, rfl, hide (unhide HX2).symm, ⟨bs_none _, fun k hk => by simp [blk] at hk⟩, HB3⟩
  · have f1 : ¬ (1 : Int) < (te'.length : Int) := by omega
    by_cases htl : te'.length = 1
    · have f1b : ((te'.length : Int) == 1) = true := by rw [beq_iff_eq]; omega
      obtain ⟨g1, hg1, hc1, hcap1⟩ := ownN_zero (unhide HO1c) htl
      subst hg1
      have hlt1 : (0 : Int) < (te'.length : Int) := by omega
      have htv : (te'.getD 0 []).length ≤ 1000000 := by
        refine (unhide HT).1 _ ?_
        match te', htl with
        | [x], _ => simp
      have HSM := hide (rsmall8 (te'.getD 0 []) w3 htv)
      have HTE0 : Hid ((decide (1 < te'.length) || (decide (te'.length = 1) && !decide (sm (te'.getD 0 []) = wChk))) = !decide (sm (te'.getD 0 []) = wChk)) := by
        show _ = _
        rw [decide_eq_false h501, decide_eq_true htl]; simp
      obtain ⟨q, hq⟩ : ∃ q, (sm (te'.getD 0 []) == wChk) = q := ⟨_, rfl⟩
      have hq2 : ((str (sm (te'.getD 0 []))).toList == [99, 104, 117, 110, 107, 101, 100]) = q := by rw [toList_str]; exact hq
      obtain ⟨tt, htt⟩ : ∃ tt, tt = sm (te'.getD 0 []) := ⟨_, rfl⟩
      rw [← htt] at HSM HTE0 hq hq2
      have HQ := hide hq
      have HTT := hide htt
      have HC1 := hide hc1
      clear hq htt hc1
      obtain ⟨t0, ht0⟩ : ∃ t0, t0 = te'.getD 0 [] := ⟨_, rfl⟩
      rw [← ht0] at HSM HC1
      have hc1 := unhide HC1
      clear ht0 HC1 htv
      go_wp2_with fail
      refine (unhide HSM).mono ?_
      rintro e w4 ⟨rfl, HB4'⟩
      have HB4 : Hid (Below w.heap.size w w4) := (unhide HB3).trans ((unhide HB4').mono (unhide HB3).size)
      have HO2d := hide ((unhide HO2c).below (unhide HB4') (Nat.le_refl _))
      have HO3d := hide ((unhide HO3).below (unhide HB4') (Nat.le_refl _))
      clear HB4' HSM hc1 HO1c HO2c HO3 HB3 h501
      cases q with
      | false =>
        have HX2 : Hid (X = ([], 0, 501)) := by
          show _ = _
          rw [unhide HX]
          unfold fmM
          rw [← unhide HTT, if_pos]
          · rfl
          · rw [unhide HTE0]
            have := unhide HQ
            simp only [beq_eq_false_iff_ne] at this
            simp [this]
        go_wp2
        go_ret3
        exact ⟨none, 0, [], 0, 501, rfl, hide (unhide HX2).symm, ⟨bs_none _, fun k hk => by simp [blk] at hk⟩, HB4⟩
      | true =>
        have HTE : Hid ((decide (1 < te'.length) || (decide (te'.length = 1) && !decide (sm (te'.getD 0 []) = wChk))) = false) := by
          show _ = _
          rw [← unhide HTT, unhide HTE0]
          have := eq_of_beq (unhide HQ)
          simp [this]
        have HX1 : Hid (X = bd8 (if !decide (ho'.length = 1) || decide (ho'.getD 0 [] = []) then (⟨false, 0⟩, 400) else if decide (1 < te'.length + cl'.length) then (⟨false, 0⟩, 400) else if decide (cl'.length = 0) then (⟨decide (te'.length = 1), 0⟩, 0) else match rlM (cl'.getD 0 []) with | none => (⟨false, 0⟩, 400) | some n => if 32768 < n then (⟨false, 0⟩, 413) else (⟨false, n⟩, 0)) s) := by
          show _ = _
          rw [unhide HX]
          unfold fmM
          rw [if_neg (by rw [unhide HTE]; decide)]
          rfl
        clear HX
        by_cases hho : ho'.length = 1
        · have f2 : ((ho'.length : Int) != 1) = false := by rw [bne_eq_false_iff_eq]; omega
          obtain ⟨g2, hg2, hc2, hcap2⟩ := ownN_zero (unhide HO2d) hho
          subst hg2
          obtain ⟨h0, hh0⟩ : ∃ h0, h0 = ho'.getD 0 [] := ⟨_, rfl⟩
          rw [← hh0] at hc2 HX1
          have hlt2 : (0 : Int) < (ho'.length : Int) := by omega
          have e2 : (str h0).toList = h0 := toList_str h0
          rw [decide_eq_true hho] at HX1
          clear hh0
          by_cases hem : h0 = []
          · have f3 : (str h0).toList.isEmpty = true := by rw [e2, hem]; rfl
            have f3b : ((str h0).toList == []) = true := by rw [e2, hem]; rfl
            have HX2 : Hid (X = ([], 0, 400)) := by
              show _ = _
              rw [unhide HX1, decide_eq_true hem]
              rfl
            clear hem e2
            go_wp2
            go_ret3
            exact ⟨none, 0, [], 0, 400, rfl, hide (unhide HX2).symm, ⟨bs_none _, fun k hk => by simp [blk] at hk⟩, HB4⟩
          · have f3 : (str h0).toList.isEmpty = false := by rw [e2]; simpa using hem
            have f3b : ((str h0).toList == []) = false := by rw [e2]; simpa using hem
            rw [decide_eq_false hem] at HX1
            clear hem e2
            by_cases hsum : 1 < te'.length + cl'.length
            · have f4 : (1 : Int) < (te'.length : Int) + (cl'.length : Int) := by omega
              have HX2 : Hid (X = ([], 0, 400)) := by
                show _ = _
                rw [unhide HX1, decide_eq_true hsum]
                rfl
              clear hsum
              go_wp2
              go_ret3
              exact ⟨none, 0, [], 0, 400, rfl, hide (unhide HX2).symm, ⟨bs_none _, fun k hk => by simp [blk] at hk⟩, HB4⟩
            · have f4 : ¬ (1 : Int) < (te'.length : Int) + (cl'.length : Int) := by omega
              rw [decide_eq_false hsum] at HX1
              have hcl : cl'.length = 0 := by omega
              have f5 : ((te'.length : Int) == 1) = true := by rw [beq_iff_eq]; omega
              rw [decide_eq_true hcl, decide_eq_true htl] at HX1
              have HX2 : Hid (X = chR s) := unhide HX1
              have HC := hide (unhide HCH w4 hs)
              clear HX1 hsum hcl
              go_wp2_with fail
              refine (unhide HC).mono ?_
              rintro e w5 ⟨x, cx, B, n, st, rfl, HY, HBs, HB5⟩
              go_wp2
              go_ret3
              exact ⟨x, cx, B, n, st, rfl, hide ((unhide HY).trans (unhide HX2).symm), ⟨(unhide HBs).1, fun k hk => Nat.le_trans (unhide HB4).size ((unhide HBs).2 k hk)⟩, hide ((unhide HB4).trans ((unhide HB5).mono (unhide HB4).size))⟩
        · have f2 : ((ho'.length : Int) != 1) = true := by rw [bne_iff_ne]; omega
          have HX2 : Hid (X = ([], 0, 400)) := by
            show _ = _
            rw [unhide HX1, decide_eq_false hho]
            rfl
          clear hho
          go_wp2
          go_ret3
          exact ⟨none, 0, [], 0, 400, rfl, hide (unhide HX2).symm, ⟨bs_none _, fun k hk => by simp [blk] at hk⟩, HB4⟩
    · have f1b : ((te'.length : Int) == 1) = false := by rw [beq_eq_false_iff_ne]; omega
      have HO2d := HO2c
      have HO3d := HO3
      have HTE : Hid ((decide (1 < te'.length) || (decide (te'.length = 1) && !decide (sm (te'.getD 0 []) = wChk))) = false) := by
        show _ = _
        rw [decide_eq_false h501, decide_eq_false htl]; rfl
      have HX1 : Hid (X = bd8 (if !decide (ho'.length = 1) || decide (ho'.getD 0 [] = []) then (⟨false, 0⟩, 400) else if decide (1 < te'.length + cl'.length) then (⟨false, 0⟩, 400) else if decide (cl'.length = 0) then (⟨decide (te'.length = 1), 0⟩, 0) else match rlM (cl'.getD 0 []) with | none => (⟨false, 0⟩, 400) | some n => if 32768 < n then (⟨false, 0⟩, 413) else (⟨false, n⟩, 0)) s) := by
        show _ = _
        rw [unhide HX]
        unfold fmM
        rw [if_neg (by rw [unhide HTE]; decide)]
        rfl
      clear HX
      by_cases hho : ho'.length = 1
      · have f2 : ((ho'.length : Int) != 1) = false := by rw [bne_eq_false_iff_eq]; omega
        obtain ⟨g2, hg2, hc2, hcap2⟩ := ownN_zero (unhide HO2d) hho
        subst hg2
        obtain ⟨h0, hh0⟩ : ∃ h0, h0 = ho'.getD 0 [] := ⟨_, rfl⟩
        rw [← hh0] at hc2 HX1
        have hlt2 : (0 : Int) < (ho'.length : Int) := by omega
        have e2 : (str h0).toList = h0 := toList_str h0
        rw [decide_eq_true hho] at HX1
        clear hh0
        by_cases hem : h0 = []
        · have f3 : (str h0).toList.isEmpty = true := by rw [e2, hem]; rfl
          have f3b : ((str h0).toList == []) = true := by rw [e2, hem]; rfl
          have HX2 : Hid (X = ([], 0, 400)) := by
            show _ = _
            rw [unhide HX1, decide_eq_true hem]
            rfl
          clear hem e2
          go_wp2
          go_ret3
          exact ⟨none, 0, [], 0, 400, rfl, hide (unhide HX2).symm, ⟨bs_none _, fun k hk => by simp [blk] at hk⟩, HB3⟩
        · have f3 : (str h0).toList.isEmpty = false := by rw [e2]; simpa using hem
          have f3b : ((str h0).toList == []) = false := by rw [e2]; simpa using hem
          rw [decide_eq_false hem] at HX1
          clear hem e2
          by_cases hsum : 1 < te'.length + cl'.length
          · have f4 : (1 : Int) < (te'.length : Int) + (cl'.length : Int) := by omega
            have HX2 : Hid (X = ([], 0, 400)) := by
              show _ = _
              rw [unhide HX1, decide_eq_true hsum]
              rfl
            clear hsum
            go_wp2
            go_ret3
            exact ⟨none, 0, [], 0, 400, rfl, hide (unhide HX2).symm, ⟨bs_none _, fun k hk => by simp [blk] at hk⟩, HB3⟩
          · have f4 : ¬ (1 : Int) < (te'.length : Int) + (cl'.length : Int) := by omega
            rw [decide_eq_false hsum] at HX1
            have f5 : ((te'.length : Int) == 1) = false := by rw [beq_eq_false_iff_ne]; omega
            rw [decide_eq_false (show ¬ te'.length = 1 by omega)] at HX1
            by_cases hcl : cl'.length = 0
            · have f6 : ((cl'.length : Int) == 1) = false := by rw [beq_eq_false_iff_ne]; omega
              have HX2 : Hid (X = ([], 0, 0)) := by
                show _ = _
                rw [unhide HX1, decide_eq_true hcl]
                unfold bd8
                simp
              clear HX1 hsum hcl
              obtain ⟨V, c5, hcv, hbV, hsV, hBV⟩ := to_bw [] w3 (by simp)
              have e5 : (str s).extract 0 0 = str [] := cut_to s 0
              have hcv1 : (convert 9 28 (.string ((str s).extract 0 0))).run Tryz.prog w3 = .ok (.slice (some ⟨w3.heap.size, 0, none⟩) 0 c5) V := by rw [e5]; exact hcv
              have hcv2 : (convert 9 28 (.string ⟨#[]⟩)).run Tryz.prog w3 = .ok (.slice (some ⟨w3.heap.size, 0, none⟩) 0 c5) V := hcv
              have hcv3 : (convert 9 28 (.string ByteArray.empty)).run Tryz.prog w3 = .ok (.slice (some ⟨w3.heap.size, 0, none⟩) 0 c5) V := hcv
              have hcv4 : (convert 9 28 (.string (str []))).run Tryz.prog w3 = .ok (.slice (some ⟨w3.heap.size, 0, none⟩) 0 c5) V := hcv
              have HBs5 := hide hBV
              have HB5 : Hid (Below w.heap.size w V) := (unhide HB3).trans (hbV.mono (unhide HB3).size)
              clear hbV hsV hBV hcv e5
              go_wp2
              go_ret3
              exact ⟨_, c5, [], 0, 0, rfl, hide (unhide HX2).symm, ⟨unhide HBs5, fun k hk => by simp [blk] at hk; have := (unhide HB3).size; omega⟩, HB5⟩
            · have hcl1 : cl'.length = 1 := by omega
              have f6 : ((cl'.length : Int) == 1) = true := by rw [beq_iff_eq]; omega
              rw [decide_eq_false hcl] at HX1
              obtain ⟨g3, hg3, hc3, hcap3⟩ := ownN_zero (unhide HO3d) hcl1
              subst hg3
              have hlt3 : (0 : Int) < (cl'.length : Int) := by omega
              have hvl : (cl'.getD 0 []).length ≤ 1000000 := by
                refine (unhide HT).2 _ ?_
                match cl', hcl1 with
                | [x], _ => simp
              have HNU := hide (number8 (cl'.getD 0 []) w3 hvl)
              generalize cl'.getD 0 [] = v at *
              clear hcl hcl1 hsum
              cases hr : rlM v with
              | none =>
                have hnu : nuM v = -1 := by unfold nuM; rw [hr]
                rw [hnu] at HNU
                have HX2 : Hid (X = ([], 0, 400)) := by
                  show _ = _
                  rw [unhide HX1, hr]
                  rfl
                clear HX1 hr hnu
                go_wp2_with fail
                refine (unhide HNU).mono ?_
                rintro e w5 ⟨rfl, HB5'⟩
                have HB5w : Hid (Below w.heap.size w w5) := (unhide HB3).trans ((unhide HB5').mono (unhide HB3).size)
                go_wp2
                go_ret3
                exact ⟨none, 0, [], 0, 400, rfl, hide (unhide HX2).symm, ⟨bs_none _, fun k hk => by simp [blk] at hk⟩, HB5w⟩
              | some n =>
                have hnu : nuM v = (n : Int) := by unfold nuM; rw [hr]
                rw [hnu] at HNU
                have hX := unhide HX1
                rw [hr] at hX
                simp only [Bool.false_eq_true, if_false] at hX
                have hn9 : n < 1000000000 := by
                  unfold rlM at hr
                  split at hr
                  · rename_i hq
                    simp only [Bool.and_eq_true, decide_eq_true_eq] at hq
                    obtain ⟨n', h1, h2, h3⟩ := rlM_some v hq.2.1 (by intro e; rw [e] at hq; simp at hq) hq.1
                    unfold rlM at h1
                    rw [if_pos (by simp [hq])] at h1
                    rw [h1] at hr
                    cases hr
                    exact h3
                  · cases hr
                clear HX1 hr hnu
                go_wp2_with fail
                refine (unhide HNU).mono ?_
                rintro e w5 ⟨rfl, HB5'⟩
                have HB5w : Hid (Below w.heap.size w w5) := (unhide HB3).trans ((unhide HB5').mono (unhide HB3).size)
                clear HNU HB5'
                have f7 : ¬ (n : Int) < 0 := by omega
                by_cases h413 : 32768 < n
                · have f8 : (32768 : Int) < (n : Int) := by omega
                  have HX2 : Hid (X = ([], 0, 413)) := by show _ = _; rw [hX, if_pos h413]; rfl
                  clear hX
                  go_wp2
                  go_ret3
                  exact ⟨none, 0, [], 0, 413, rfl, hide (unhide HX2).symm, ⟨bs_none _, fun k hk => by simp [blk] at hk⟩, HB5w⟩
                · have f8 : ¬ (32768 : Int) < (n : Int) := by omega
                  by_cases hmo : s.length < n
                  · have f9 : (s.length : Int) < (n : Int) := by omega
                    have HX2 : Hid (X = ([], 0, 1)) := by show _ = _; rw [hX, if_neg h413]; unfold bd8; simp [hmo]
                    clear hX
                    go_wp2
                    go_ret3
                    exact ⟨none, 0, [], 0, 1, rfl, hide (unhide HX2).symm, ⟨bs_none _, fun k hk => by simp [blk] at hk⟩, HB5w⟩
                  · have f9 : ¬ (s.length : Int) < (n : Int) := by omega
                    have HX2 : Hid (X = (s.take n, n, 0)) := by show _ = _; rw [hX, if_neg h413]; unfold bd8; simp [hmo]
                    clear hX
                    obtain ⟨V, c5, hcv, hbV, hsV, hBV⟩ := to_bw (s.take n) w5 (by simp; omega)
                    have e5 : (str s).extract 0 n = str (s.take n) := cut_to s n
                    have hl5 : (s.take n).length = n := by simp; omega
                    rw [hl5] at hcv
                    have HBs5 := hide hBV
                    have HB5 : Hid (Below w.heap.size w V) := (unhide HB5w).trans (hbV.mono (unhide HB5w).size)
                    have HL5 := hide hl5
                    clear hbV hsV hBV hl5
                    go_wp2
                    go_ret3
                    exact ⟨_, c5, s.take n, n, 0, (by rw [unhide HL5]; rfl), hide (unhide HX2).symm, ⟨unhide HBs5, fun k hk => by simp [blk] at hk; have := (unhide HB5w).size; omega⟩, HB5⟩
      · have f2 : ((ho'.length : Int) != 1) = true := by rw [bne_iff_ne]; omega
        have HX2 : Hid (X = ([], 0, 400)) := by
          show _ = _
          rw [unhide HX1, decide_eq_false hho]
          rfl
        clear hho
        go_wp2
        go_ret3
        exact ⟨none, 0, [], 0, 400, rfl, hide (unhide HX2).symm, ⟨bs_none _, fun k hk => by simp [blk] at hk⟩, HB3⟩
#print axioms body8
end Go.Proofs.YtonaekkenggmbaaGreatDoor
end
