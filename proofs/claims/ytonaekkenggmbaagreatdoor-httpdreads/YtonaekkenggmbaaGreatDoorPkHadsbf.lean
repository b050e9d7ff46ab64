/-
  httpd's reference: a body in chunks.; httpd's reference: what stands behind a head.; httpd's reference: Parse.; httpd's reference against the reader: lines (mathematics).
-/
import Derived.Test.YtonaekkenggmbaaGreatDoorPkHadsav
import Derived.Test.YtonaekkenggmbaaGreatDoorPkHadsbe
import Derived.Test.YtonaekkenggmbaaGreatDoorPkHadsap
section
set_option linter.unusedVariables false
set_option maxRecDepth 1000000
namespace Go.Proofs.YtonaekkenggmbaaGreatDoor
open Go.RowKit

/-- A body in chunks, how many bytes it takes, the status. -/
def chR (s : List UInt8) : List UInt8 × Nat × Nat := if (runM RM (.chunk 0 0) (qb []) s).2.1 = 0 then ((runM RM (.chunk 0 0) (qb []) s).2.2.2.b, (runM RM (.chunk 0 0) (qb []) s).1, 0) else ([], 0, (runM RM (.chunk 0 0) (qb []) s).2.1)
theorem cut_mid (s : List UInt8) (a n : Nat) : (str s).extract a (a + n) = str ((s.drop a).take n) := by
  have := ByteArray.extract_mk s a (a + n)
  simpa [str, List.extract_eq_take_drop] using this
/-- What the reference keeps of a chunk's reading, to its end. -/
theorem chunkE8 {s : List UInt8} {y : Nat × Nat × St × Rq} {B : List UInt8} {a n d : Nat} (h : RR s y (.chunk n d) B a) (hd : 0 < d) (hx : ∀ c, s[a]? = some c → hexB c = none) (he : enM s a = 0) :
    a + 2 ≤ s.length ∧ (32768 - B.length < n → y.2.1 = 413) ∧ (¬ 32768 - B.length < n → (s.length - (a + 2) < n → y.2.1 = 1) ∧ (n ≤ s.length - (a + 2) → (enM s (a + 2 + n) ≠ 0 → y.2.1 = enM s (a + 2 + n)) ∧ (enM s (a + 2 + n) = 0 → a + 2 + n + 2 ≤ s.length ∧ (n = 0 → y.1 = a + 2 + n + 2 ∧ y.2.1 = 0 ∧ y.2.2.2.b = B ++ (s.drop (a + 2)).take n) ∧ (n ≠ 0 → RR s y (.chunk 0 0) (B ++ (s.drop (a + 2)).take n) (a + 2 + n + 2))))) := by
  obtain ⟨h1, h2, h3⟩ := (h.line hd hx).2 he
  refine ⟨h1, h2, fun hb => ?_⟩
  obtain ⟨h4, h5⟩ := h3 hb
  by_cases hn : n = 0
  · subst hn
    have h6 := (h4 rfl).crlf
    refine ⟨fun e => by omega, fun _ => ⟨h6.1, fun e => ?_⟩⟩
    obtain ⟨k1, k2, k3⟩ := h6.2 e
    refine ⟨k1, fun _ => ?_, fun e => absurd rfl e⟩
    obtain ⟨m1, m2, m3⟩ := k2 rfl
    exact ⟨m1, m2, by rw [m3]; simp [qb]⟩
  · obtain ⟨k1, k2⟩ := RR.bytes n (h5 hn) (by omega)
    refine ⟨k1, fun e => ?_⟩
    have h6 := (k2 e).crlf
    refine ⟨h6.1, fun e => ?_⟩
    obtain ⟨m1, _, m3⟩ := h6.2 e
    exact ⟨m1, fun e => absurd e hn, fun _ => m3 rfl⟩
set_option maxHeartbeats 4000000 in
theorem chunks8 (s : List UInt8) (w : World) (hs : s.length ≤ 140737488353280) :
    Calls Tryz.prog 101 #[.string (str s)] w fun e w' => ∃ x cx B, ∃ n st : Nat, e = .returned (.tuple #[.slice x B.length cx, .int .i64 (n : Int), .int .i64 (st : Int)]) ∧ Hid ((B, n, st) = chR s) ∧ Hid (Bs w' x cx B ∧ ∀ k, blk x = some k → w.heap.size ≤ k) ∧ Hid (Below w.heap.size w w') := by
  have z1 : (str s).size = s.length := str_size s
  obtain ⟨y, hy⟩ : ∃ y, y = runM RM (.chunk 0 0) (qb []) s := ⟨_, rfl⟩
  have HR0 : Hid (RR s y (.chunk 0 0) [] 0) := by show _ = _; rw [hy]; rfl
  have HBAD : Hid (∀ st, y.2.1 = st → st ≠ 0 → ([], 0, st) = chR s) := fun st h h0 => by
    unfold chR
    rw [← hy, h, if_neg h0]
  have HGOOD : Hid (y.2.1 = 0 → (y.2.2.2.b, y.1, 0) = chR s) := fun h => by
    unfold chR
    rw [← hy, h, if_pos rfl]
  clear hy
  go_enter Tryz.func101, Tryz.ntmps101
  go_wp2
  go_loopw [5, 6] (fun v5 v6 wr => ∃ (a : Nat) (x : Option Addr) (cx : Nat) (B : List UInt8), a ≤ s.length ∧ B.length ≤ 32768 ∧ v5 = .slice x B.length cx ∧ v6 = .int .i64 (a : Int) ∧ Hid (RR s y (.chunk 0 0) B a) ∧ Hid (OwnB wr w.heap.size x cx B) ∧ Hid (Below w.heap.size w wr)) (fun _ v6 _ => s.length - (intOf v6).toNat)
  case atStart => exact ⟨0, none, 0, [], Nat.zero_le _, by simp, rfl, rfl, HR0, OwnB.nil _ _, Below.refl _ _⟩
  case round =>
    clear HR0
    obtain ⟨a0, x, cx, B, ha0, hBl, rfl, rfl, HR, HO, HB⟩ := hrel
    obtain ⟨u, rfl⟩ : ∃ u, u = wr := ⟨_, rfl⟩
    go_wp2
    go_loopw [6, 7, 8] (fun v6 v7 v8 wr => ∃ (a n d : Nat), a ≤ s.length ∧ a0 ≤ a ∧ d ≤ 8 ∧ n < 4294967296 ∧ v6 = .int .i64 (a : Int) ∧ v7 = .int .i64 (n : Int) ∧ v8 = .int .i64 (d : Int) ∧ Hid (n < 16 ^ d ∧ (0 < d → a0 < a)) ∧ Hid (RR s y (.chunk n d) B a) ∧ Hid (OwnB wr w.heap.size x cx B) ∧ Hid (Below w.heap.size w wr)) (fun v6 _ _ _ => s.length - (intOf v6).toNat)
    case atStart => exact ⟨a0, 0, 0, ha0, Nat.le_refl _, by decide, by decide, rfl, rfl, rfl, ⟨by decide, fun h => by omega⟩, HR, HO, HB⟩
    case round =>
      clear HR HO HB
      obtain ⟨a, n, d, ha, haa, hd, hn32, rfl, rfl, rfl, HND, HR, HO, HB⟩ := hrel
      by_cases hlt : a < s.length
      · have hlt' : (a : Int) < (s.length : Int) := by omega
        obtain ⟨c, hc⟩ : ∃ c, s.getD a 0 = c := ⟨_, rfl⟩
        have hix : ∀ w, (Instr.index 9 (.string (str s)) (.int .i64 (a : Int))).run Tryz.prog w = .ok (.int .u8 (c.toNat : Int)) w := fun w => by rw [← hc]; exact run_ixs w s a hlt
        have HC : Hid (s[a]? = some c) := by show _ = _; rw [gd_get s a hlt, hc]
        have HHX : Hid (∀ w, Calls Tryz.prog 123 #[.int .u8 (c.toNat : Int)] w fun e w' => e = .returned (.int .i64 (hxM c : Int)) ∧ Hid (Below w.heap.size w w')) := fun w => hex8 c w
        clear hc
        cases hh : hexB c with
        | some z =>
          have hz16 : z < 16 := hexB_lt c z hh
          have hxm : hxM c = z := by unfold hxM; rw [hh]
          rw [hxm] at HHX
          have HH := hide hh
          have hz' : (z : Int) < 16 := by omega
          clear hxm hh
          go_wp2_with fail
          refine (unhide HHX _).mono ?_
          rintro e w1 ⟨rfl, HB1⟩
          go_wp2_with fail
          refine (unhide HHX _).mono ?_
          rintro e w2 ⟨rfl, HB2⟩
          have HO2 := hide (((unhide HO).below (unhide HB1) (Nat.le_refl _)).below (unhide HB2) (Nat.le_refl _))
          have HBw : Hid (Below w.heap.size w w2) := ((unhide HB).trans ((unhide HB1).mono (unhide HB).size)).trans ((unhide HB2).mono (Nat.le_trans (unhide HB).size (unhide HB1).size))
          clear HB1 HB2 HO HB HHX
          by_cases h8 : d < 8
          · have h8' : ¬ (8 : Int) < (d : Int) + 1 := by omega
            have HR2 := hide ((unhide HR).digit (unhide HC) (unhide HH) h8)
            have hp : n * 16 + z < 16 ^ (d + 1) := by
              have := (unhide HND).1
              rw [Nat.pow_succ]
              omega
            have hp32 : n * 16 + z < 4294967296 := by
              have h1 : 16 ^ (d + 1) ≤ 16 ^ 8 := Nat.pow_le_pow_right (by decide) (by omega)
              have h2 : (16 : Nat) ^ 8 = 4294967296 := by decide
              omega
            go_wp2
            go_roundw
            case rel => exact ⟨a + 1, n * 16 + z, d + 1, by omega, by omega, by omega, hp32, by go_num, by congr 1; omega, by go_num, ⟨hp, fun _ => by omega⟩, HR2, HO2, HBw⟩
            case measure => simp [intOf]; omega
          · have h8' : (8 : Int) < (d : Int) + 1 := by omega
            have HY : Hid (y.2.1 = 400) := (unhide HR).nine (unhide HC) (unhide HH) h8
            go_wp2
            go_ret3
            exact ⟨none, 0, [], 0, 400, rfl, hide (unhide HBAD 400 (unhide HY) (by decide)), ⟨bs_none _, fun k hk => by simp [blk] at hk⟩, HBw⟩
        | none =>
          have hxm : hxM c = 16 := by unfold hxM; rw [hh]
          rw [hxm] at HHX
          have HH : Hid (∀ c', s[a]? = some c' → hexB c' = none) := fun c' h => by rw [unhide HC] at h; cases h; exact hh
          clear hxm
          go_wp2_with fail
          refine (unhide HHX _).mono ?_
          rintro e w1 ⟨rfl, HB1⟩
          have HO1 := hide ((unhide HO).below (unhide HB1) (Nat.le_refl _))
          have HBw : Hid (Below w.heap.size w w1) := (unhide HB).trans ((unhide HB1).mono (unhide HB).size)
          clear HB1 HO HB HHX
          by_cases hd0 : d = 0
          · have HY : Hid (y.2.1 = 400) := (unhide HR).nocr (unhide HC) hh (fun e => by omega)
            have ed : ((d : Int) == 0) = true := by rw [beq_iff_eq]; omega
            clear hd0 hh
            go_wp2
            go_ret3
            exact ⟨none, 0, [], 0, 400, rfl, hide (unhide HBAD 400 (unhide HY) (by decide)), ⟨bs_none _, fun k hk => by simp [blk] at hk⟩, HBw⟩
          · have ed : ((d : Int) == 0) = false := by rw [beq_eq_false_iff_ne]; omega
            have HLN := hide ((unhide HR).line (by omega) (unhide HH))
            have HCE := hide (chunkE8 (unhide HR) (by omega) (unhide HH))
            have HE1 := hide (ends8 s a w1 hs (by omega))
            have haa2 : a0 < a := (unhide HND).2 (by omega)
            clear hd0 hh
            obtain ⟨E, hE⟩ : ∃ E, E = enM s a := ⟨_, rfl⟩
            rw [← hE] at HE1 HLN HCE
            clear hE
            go_wp2_with fail
            refine (unhide HE1).mono ?_
            rintro e w2 ⟨rfl, HB2⟩
            have HO2 := hide ((unhide HO1).below (unhide HB2) (Nat.le_refl _))
            have HBw2 : Hid (Below w.heap.size w w2) := (unhide HBw).trans ((unhide HB2).mono (unhide HBw).size)
            clear HE1 HB2 HO1 HBw
            by_cases hE0 : E = 0
            · subst hE0
              obtain ⟨hl2, h413, hgo⟩ := unhide HCE rfl
              clear HCE HLN
              by_cases hbig : 32768 - B.length < n
              · have HY := hide (h413 hbig)
                have hbig' : (32768 : Int) - (B.length : Int) < (n : Int) := by omega
                clear hgo h413
                go_wp2
                go_ret3
                exact ⟨none, 0, [], 0, 413, rfl, hide (unhide HBAD 413 (unhide HY) (by decide)), ⟨bs_none _, fun k hk => by simp [blk] at hk⟩, HBw2⟩
              · have hbig' : ¬ (32768 : Int) - (B.length : Int) < (n : Int) := by omega
                obtain ⟨hmore, hon⟩ := hgo hbig
                clear h413 hgo
                by_cases hsh : s.length - (a + 2) < n
                · have HY := hide (hmore hsh)
                  have hsh' : (s.length : Int) - ((a : Int) + 2) < (n : Int) := by omega
                  clear hmore hon
                  go_wp2
                  go_ret3
                  exact ⟨none, 0, [], 0, 1, rfl, hide (unhide HBAD 1 (unhide HY) (by decide)), ⟨bs_none _, fun k hk => by simp [blk] at hk⟩, HBw2⟩
                · have hsh' : ¬ (s.length : Int) - ((a : Int) + 2) < (n : Int) := by omega
                  obtain ⟨hend1, hend2⟩ := hon (by omega)
                  have e1 : (str s).extract (a + 2) (a + 2 + n) = str ((s.drop (a + 2)).take n) := cut_mid s (a + 2) n
                  obtain ⟨T, hT⟩ : ∃ T, T = (s.drop (a + 2)).take n := ⟨_, rfl⟩
                  rw [← hT] at e1 hend2
                  have hTl : T.length = n := by rw [hT]; simp; omega
                  have zT : (str T).size = T.length := str_size T
                  have HEN := hide (And.intro hend1 hend2)
                  clear hmore hon hend1 hend2 hT
                  have HTL := hide hTl
                  have hTl2 : T.length ≤ 32768 := by omega
                  have hTl3 : B.length + T.length ≤ 32768 := by omega
                  clear hTl
                  have hap : Hid (B.length + (str T).size ≤ 140737488355328) := by show _ ≤ _; rw [zT]; omega
                  have hz2 : Hid (w.heap.size ≤ w2.heap.size) := (unhide HBw2).size
                  go_wp2_with (at_builtin; refine wp_apps _ rfl _ _ rfl w.heap.size x cx B rfl (unhide HO2) (str T) (congrArg Value.string e1) (unhide hap) (unhide hz2) ?_)
                  intro x' cx' B' w3 hB' hO' hg'
                  have HB' : Hid (B' = B ++ T) := unhide hB'
                  have HBw3 : Hid (Below w.heap.size w w3) := below_grown (a := x) (unhide HBw2) hg' (Nat.le_refl _) (fun k hk => ((unhide HO2).lt k hk).1)
                  have HO3 := hide hO'
                  have HE2 := hide (ends8 s (a + 2 + n) w3 hs (by omega))
                  obtain ⟨E2, hE2⟩ : ∃ E2, E2 = enM s (a + 2 + n) := ⟨_, rfl⟩
                  rw [← hE2] at HE2 HEN
                  have hcast : ((a + 2 + n : Nat) : Int) = (a : Int) + 2 + (n : Int) := by omega
                  rw [hcast] at HE2
                  clear hE2 hB' hO' hg' HO2 HBw2 hcast
                  have hB'l : B'.length ≤ 32768 := by rw [unhide HB', List.length_append]; exact hTl3
                  go_wp2_with fail
                  refine (unhide HE2).mono ?_
                  rintro e w4 ⟨rfl, HB4⟩
                  have HO4 := hide ((unhide HO3).below (unhide HB4) (Nat.le_refl _))
                  have HBw4 : Hid (Below w.heap.size w w4) := (unhide HBw3).trans ((unhide HB4).mono (unhide HBw3).size)
                  clear HE2 HB4 HO3 HBw3
                  by_cases hE20 : E2 = 0
                  · subst hE20
                    obtain ⟨hl4, hz, hnz⟩ := (unhide HEN).2 rfl
                    by_cases hn0 : n = 0
                    · have en : ((n : Int) == 0) = true := by rw [beq_iff_eq]; omega
                      have HY : Hid ((B', a + 2 + n + 2, 0) = chR s) := by
                        obtain ⟨m1, m2, m3⟩ := hz hn0
                        have := unhide HGOOD m2
                        rw [m1, m3] at this
                        rw [unhide HB']; exact this
                      clear hz hnz hn0
                      go_wp2
                      go_ret3
                      exact ⟨x', cx', B', a + 2 + n + 2, 0, rfl, HY, ⟨(unhide HO4).toBs, fun k hk => ((unhide HO4).lt k hk).1⟩, HBw4⟩
                    · have en : ((n : Int) == 0) = false := by rw [beq_eq_false_iff_ne]; omega
                      have HR2 : Hid (RR s y (.chunk 0 0) B' (a + 2 + n + 2)) := by rw [unhide HB']; exact hnz hn0
                      clear hz hnz hn0
                      go_wp2
                      go_roundw
                      case rel => exact ⟨a + 2 + n + 2, x', cx', B', by omega, hB'l, rfl, by congr 1, HR2, HO4, HBw4⟩
                      case measure => simp [intOf]; omega
                  · have en : ((E2 : Int) != 0) = true := by rw [bne_iff_ne]; omega
                    have HY := hide ((unhide HEN).1 hE20)
                    have HE20 := hide hE20
                    clear hE20
                    go_wp2
                    go_ret3
                    exact ⟨none, 0, [], 0, E2, rfl, hide (unhide HBAD E2 (unhide HY) (unhide HE20)), ⟨bs_none _, fun k hk => by simp [blk] at hk⟩, HBw4⟩
            · have en : ((E : Int) != 0) = true := by rw [bne_iff_ne]; omega
              have HY := hide ((unhide HLN).1 hE0)
              have HE0 := hide hE0
              clear hE0
              go_wp2
              go_ret3
              exact ⟨none, 0, [], 0, E, rfl, hide (unhide HBAD E (unhide HY) (unhide HE0)), ⟨bs_none _, fun k hk => by simp [blk] at hk⟩, HBw2⟩
      · obtain rfl : a = s.length := by omega
        have HY : Hid (y.2.1 = 1) := (unhide HR).fin (Nat.le_refl _)
        have HE1 := hide (ends8 s s.length wr hs (by omega))
        have hE : enM s s.length = 1 := by unfold enM; rw [if_pos (Nat.le_refl _)]
        rw [hE] at HE1
        have hlt' : ¬ (s.length : Int) < (s.length : Int) := by omega
        clear hlt hE
        go_wp2_with fail
        refine (unhide HE1).mono ?_
        rintro e w2 ⟨rfl, HB2⟩
        have HBw2 : Hid (Below w.heap.size w w2) := (unhide HB).trans ((unhide HB2).mono (unhide HB).size)
        go_wp2
        go_ret3
        exact ⟨none, 0, [], 0, 1, rfl, hide (unhide HBAD 1 (unhide HY) (by decide)), ⟨bs_none _, fun k hk => by simp [blk] at hk⟩, HBw2⟩
#print axioms chunks8
end Go.Proofs.YtonaekkenggmbaaGreatDoor
end
section
set_option linter.unusedVariables false
set_option maxRecDepth 1000000
namespace Go.Proofs.YtonaekkenggmbaaGreatDoor
open Go.RowKit

def bd8 (F : Fm × Nat) (s : List UInt8) : List UInt8 × Nat × Nat :=
  if F.2 ≠ 0 then ([], 0, F.2) else if F.1.c then chR s else if s.length < F.1.n then ([], 0, 1) else (s.take F.1.n, F.1.n, 0)
def bdM (H : List Hd) (s : List UInt8) : List UInt8 × Nat × Nat := bd8 (fmM (valE wTE H) (valE wHost H) (valE wCL H)) s
theorem ownN_zero {w : World} {base : Nat} {a : Option Addr} {cap : Nat} {l : List (List UInt8)} (h : OwnN w base a cap l) (hl : l.length = 1) : ∃ g, a = some ⟨g, 0, none⟩ ∧ w.cell? ⟨g, 0, none⟩ = some (.string (str (l.getD 0 []))) ∧ 1 ≤ cap := by
  obtain ⟨g, e, _, _, hc⟩ := h.some (by omega)
  exact ⟨g, e, hc 0 (by omega), by have := h.le; omega⟩
set_option maxHeartbeats 4000000 in
theorem body8 (p : Option Addr) (cp : Nat) (H : List Hd) (s : List UInt8) (w : World) (hH : HdR w p H) (hl : H.length ≤ 32) (hv : ∀ h ∈ H, h.2.length ≤ 1000000) (hs : s.length ≤ 140737488353280) :
    Calls Tryz.prog 76 #[.slice p H.length cp, .string (str s)] w fun e w' => ∃ x cx B, ∃ n st : Nat, e = .returned (.tuple #[.slice x B.length cx, .int .i64 (n : Int), .int .i64 (st : Int)]) ∧ Hid ((B, n, st) = bdM H s) ∧ Hid (Bs w' x cx B ∧ ∀ k, blk x = some k → w.heap.size ≤ k) ∧ Hid (Below w.heap.size w w') := by
  have z1 : (str s).size = s.length := str_size s
  have HV1 : Hid (Calls Tryz.prog 100 #[.slice p H.length cp, .string ⟨#[116, 114, 97, 110, 115, 102, 101, 114, 45, 101, 110, 99, 111, 100, 105, 110, 103]⟩] w fun e w' => ∃ a c L, e = .returned (.slice a L.length c) ∧ Hid (L = valE wTE H) ∧ Hid (OwnN w' w.heap.size a c L) ∧ Hid (Below w.heap.size w w')) := values8 wTE p cp H w hH (by omega)
  have HV2 : Hid (∀ w', HdR w' p H → Calls Tryz.prog 100 #[.slice p H.length cp, .string ⟨#[104, 111, 115, 116]⟩] w' fun e w'' => ∃ a c L, e = .returned (.slice a L.length c) ∧ Hid (L = valE wHost H) ∧ Hid (OwnN w'' w'.heap.size a c L) ∧ Hid (Below w'.heap.size w' w'')) := fun w' h => values8 wHost p cp H w' h (by omega)
  have HV3 : Hid (∀ w', HdR w' p H → Calls Tryz.prog 100 #[.slice p H.length cp, .string ⟨#[99, 111, 110, 116, 101, 110, 116, 45, 108, 101, 110, 103, 116, 104]⟩] w' fun e w'' => ∃ a c L, e = .returned (.slice a L.length c) ∧ Hid (L = valE wCL H) ∧ Hid (OwnN w'' w'.heap.size a c L) ∧ Hid (Below w'.heap.size w' w'')) := fun w' h => values8 wCL p cp H w' h (by omega)
  have HHd := hide hH
  have hmem : ∀ nm, ∀ x ∈ valE nm H, x.length ≤ 1000000 := fun nm x hx => by
    obtain ⟨h, h1, rfl⟩ := List.mem_map.1 hx
    exact hv h (List.mem_filter.1 h1).1
  have HT : Hid ((∀ x ∈ valE wTE H, x.length ≤ 1000000) ∧ (∀ x ∈ valE wCL H, x.length ≤ 1000000)) := ⟨hmem _, hmem _⟩
  have HLn : Hid ((valE wTE H).length ≤ 32 ∧ (valE wHost H).length ≤ 32 ∧ (valE wCL H).length ≤ 32) := ⟨Nat.le_trans (valE_len _ _) hl, Nat.le_trans (valE_len _ _) hl, Nat.le_trans (valE_len _ _) hl⟩
  obtain ⟨X, hX⟩ : ∃ X, X = bdM H s := ⟨_, rfl⟩
  rw [← hX]
  unfold bdM at hX
  generalize valE wTE H = te at *
  generalize valE wHost H = ho at *
  generalize valE wCL H = cl at *
  have HX := hide hX
  have HCH := hide (chunks8 s)
  clear hX hH hmem hv
  go_enter Tryz.func76, Tryz.ntmps76
  go_wp2_with fail
  refine (unhide HV1).mono ?_
  rintro e w1 ⟨a1, c1, te', rfl, h1, HO1, HB1⟩
  obtain rfl := unhide h1
  clear h1 HV1
  go_wp2_with fail
  refine (unhide HV2 w1 ((unhide HHd).below (unhide HB1) (Nat.le_refl _))).mono ?_
  rintro e w2 ⟨a2, c2, ho', rfl, h1, HO2, HB2'⟩
  obtain rfl := unhide h1
  have HB2 : Hid (Below w.heap.size w w2) := (unhide HB1).trans ((unhide HB2').mono (unhide HB1).size)
  have HO1b := hide ((unhide HO1).below (unhide HB2') (Nat.le_refl _))
  clear h1 HV2 HB2' HB1 HO1
  go_wp2_with fail
  refine (unhide HV3 w2 ((unhide HHd).below (unhide HB2) (Nat.le_refl _))).mono ?_
  rintro e w3 ⟨a3, c3, cl', rfl, h1, HO3, HB3'⟩
  obtain rfl := unhide h1
  have HB3 : Hid (Below w.heap.size w w3) := (unhide HB2).trans ((unhide HB3').mono (unhide HB2).size)
  have HO1c := hide ((unhide HO1b).below (unhide HB3') (Nat.le_refl _))
  have HO2c := hide ((unhide HO2).below (unhide HB3') (Nat.le_refl _))
  clear h1 HV3 HB3' HB2 HO1b HO2 HHd
  obtain ⟨hl1, hl2, hl3⟩ := unhide HLn
  clear HLn
  -- behind the coding's test
  have key : ∀ (w4 : World), Hid (Below w3.heap.size w3 w4) → ∀ tl : Nat, tl = te'.length → tl ≤ 1 → (tl = 1 → sm (te'.getD 0 []) = wChk) → True := fun _ _ _ _ _ _ => trivial
  clear key
  by_cases h501 : 1 < te'.length
  · have f1 : (1 : Int) < (te'.length : Int) := by omega
    have HX2 : Hid (X = ([], 0, 501)) := by
      show _ = _
      rw [unhide HX]
      unfold fmM
      rw [if_pos (by simp [h501])]
      rfl
    clear h501
    go_wp2
    go_ret3
    exact ⟨none, 0, [], 0, 501, rfl, hide (unhide HX2).symm, ⟨bs_none _, fun k hk => by simp [blk] at hk⟩, HB3⟩
  · have f1 : ¬ (1 : Int) < (te'.length : Int) := by omega
    by_cases htl : te'.length = 1
    · have f1b : ((te'.length : Int) == 1) = true := by rw [beq_iff_eq]; omega
      obtain ⟨g1, hg1, hc1, hcap1⟩ := ownN_zero (unhide HO1c) htl
      subst hg1
      have hlt1 : (0 : Int) < (te'.length : Int) := by omega
      have htv : (te'.getD 0 []).length ≤ 1000000 := by
        refine (unhide HT).1 _ ?_
        match te', htl with
        | [x], _ => simp
      have HSM := hide (rsmall8 (te'.getD 0 []) w3 htv)
      have HTE0 : Hid ((decide (1 < te'.length) || (decide (te'.length = 1) && !decide (sm (te'.getD 0 []) = wChk))) = !decide (sm (te'.getD 0 []) = wChk)) := by
        show _ = _
        rw [decide_eq_false h501, decide_eq_true htl]; simp
      obtain ⟨q, hq⟩ : ∃ q, (sm (te'.getD 0 []) == wChk) = q := ⟨_, rfl⟩
      have hq2 : ((str (sm (te'.getD 0 []))).toList == [99, 104, 117, 110, 107, 101, 100]) = q := by rw [toList_str]; exact hq
      obtain ⟨tt, htt⟩ : ∃ tt, tt = sm (te'.getD 0 []) := ⟨_, rfl⟩
      rw [← htt] at HSM HTE0 hq hq2
      have HQ := hide hq
      have HTT := hide htt
      have HC1 := hide hc1
      clear hq htt hc1
      obtain ⟨t0, ht0⟩ : ∃ t0, t0 = te'.getD 0 [] := ⟨_, rfl⟩
      rw [← ht0] at HSM HC1
      have hc1 := unhide HC1
      clear ht0 HC1 htv
      go_wp2_with fail
      refine (unhide HSM).mono ?_
      rintro e w4 ⟨rfl, HB4'⟩
      have HB4 : Hid (Below w.heap.size w w4) := (unhide HB3).trans ((unhide HB4').mono (unhide HB3).size)
      have HO2d := hide ((unhide HO2c).below (unhide HB4') (Nat.le_refl _))
      have HO3d := hide ((unhide HO3).below (unhide HB4') (Nat.le_refl _))
      clear HB4' HSM hc1 HO1c HO2c HO3 HB3 h501
      cases q with
      | false =>
        have HX2 : Hid (X = ([], 0, 501)) := by
          show _ = _
          rw [unhide HX]
          unfold fmM
          rw [← unhide HTT, if_pos]
          · rfl
          · rw [unhide HTE0]
            have := unhide HQ
            simp only [beq_eq_false_iff_ne] at this
            simp [this]
        go_wp2
        go_ret3
        exact ⟨none, 0, [], 0, 501, rfl, hide (unhide HX2).symm, ⟨bs_none _, fun k hk => by simp [blk] at hk⟩, HB4⟩
      | true =>
        have HTE : Hid ((decide (1 < te'.length) || (decide (te'.length = 1) && !decide (sm (te'.getD 0 []) = wChk))) = false) := by
          show _ = _
          rw [← unhide HTT, unhide HTE0]
          have := eq_of_beq (unhide HQ)
          simp [this]
        have HX1 : Hid (X = bd8 (if !decide (ho'.length = 1) || decide (ho'.getD 0 [] = []) then (⟨false, 0⟩, 400) else if decide (1 < te'.length + cl'.length) then (⟨false, 0⟩, 400) else if decide (cl'.length = 0) then (⟨decide (te'.length = 1), 0⟩, 0) else match rlM (cl'.getD 0 []) with | none => (⟨false, 0⟩, 400) | some n => if 32768 < n then (⟨false, 0⟩, 413) else (⟨false, n⟩, 0)) s) := by
          show _ = _
          rw [unhide HX]
          unfold fmM
          rw [if_neg (by rw [unhide HTE]; decide)]
          rfl
        clear HX
        by_cases hho : ho'.length = 1
        · have f2 : ((ho'.length : Int) != 1) = false := by rw [bne_eq_false_iff_eq]; omega
          obtain ⟨g2, hg2, hc2, hcap2⟩ := ownN_zero (unhide HO2d) hho
          subst hg2
          obtain ⟨h0, hh0⟩ : ∃ h0, h0 = ho'.getD 0 [] := ⟨_, rfl⟩
          rw [← hh0] at hc2 HX1
          have hlt2 : (0 : Int) < (ho'.length : Int) := by omega
          have e2 : (str h0).toList = h0 := toList_str h0
          rw [decide_eq_true hho] at HX1
          clear hh0
          by_cases hem : h0 = []
          · have f3 : (str h0).toList.isEmpty = true := by rw [e2, hem]; rfl
            have f3b : ((str h0).toList == []) = true := by rw [e2, hem]; rfl
            have HX2 : Hid (X = ([], 0, 400)) := by
              show _ = _
              rw [unhide HX1, decide_eq_true hem]
              rfl
            clear hem e2
            go_wp2
            go_ret3
            exact ⟨none, 0, [], 0, 400, rfl, hide (unhide HX2).symm, ⟨bs_none _, fun k hk => by simp [blk] at hk⟩, HB4⟩
          · have f3 : (str h0).toList.isEmpty = false := by rw [e2]; simpa using hem
            have f3b : ((str h0).toList == []) = false := by rw [e2]; simpa using hem
            rw [decide_eq_false hem] at HX1
            clear hem e2
            by_cases hsum : 1 < te'.length + cl'.length
            · have f4 : (1 : Int) < (te'.length : Int) + (cl'.length : Int) := by omega
              have HX2 : Hid (X = ([], 0, 400)) := by
                show _ = _
                rw [unhide HX1, decide_eq_true hsum]
                rfl
              clear hsum
              go_wp2
              go_ret3
              exact ⟨none, 0, [], 0, 400, rfl, hide (unhide HX2).symm, ⟨bs_none _, fun k hk => by simp [blk] at hk⟩, HB4⟩
            · have f4 : ¬ (1 : Int) < (te'.length : Int) + (cl'.length : Int) := by omega
              rw [decide_eq_false hsum] at HX1
              have hcl : cl'.length = 0 := by omega
              have f5 : ((te'.length : Int) == 1) = true := by rw [beq_iff_eq]; omega
              rw [decide_eq_true hcl, decide_eq_true htl] at HX1
              have HX2 : Hid (X = chR s) := unhide HX1
              have HC := hide (unhide HCH w4 hs)
              clear HX1 hsum hcl
              go_wp2_with fail
              refine (unhide HC).mono ?_
              rintro e w5 ⟨x, cx, B, n, st, rfl, HY, HBs, HB5⟩
              go_wp2
              go_ret3
              exact ⟨x, cx, B, n, st, rfl, hide ((unhide HY).trans (unhide HX2).symm), ⟨(unhide HBs).1, fun k hk => Nat.le_trans (unhide HB4).size ((unhide HBs).2 k hk)⟩, hide ((unhide HB4).trans ((unhide HB5).mono (unhide HB4).size))⟩
        · have f2 : ((ho'.length : Int) != 1) = true := by rw [bne_iff_ne]; omega
          have HX2 : Hid (X = ([], 0, 400)) := by
            show _ = _
            rw [unhide HX1, decide_eq_false hho]
            rfl
          clear hho
          go_wp2
          go_ret3
          exact ⟨none, 0, [], 0, 400, rfl, hide (unhide HX2).symm, ⟨bs_none _, fun k hk => by simp [blk] at hk⟩, HB4⟩
    · have f1b : ((te'.length : Int) == 1) = false := by rw [beq_eq_false_iff_ne]; omega
      have HO2d := HO2c
      have HO3d := HO3
      have HTE : Hid ((decide (1 < te'.length) || (decide (te'.length = 1) && !decide (sm (te'.getD 0 []) = wChk))) = false) := by
        show _ = _
        rw [decide_eq_false h501, decide_eq_false htl]; rfl
      have HX1 : Hid (X = bd8 (if !decide (ho'.length = 1) || decide (ho'.getD 0 [] = []) then (⟨false, 0⟩, 400) else if decide (1 < te'.length + cl'.length) then (⟨false, 0⟩, 400) else if decide (cl'.length = 0) then (⟨decide (te'.length = 1), 0⟩, 0) else match rlM (cl'.getD 0 []) with | none => (⟨false, 0⟩, 400) | some n => if 32768 < n then (⟨false, 0⟩, 413) else (⟨false, n⟩, 0)) s) := by
        show _ = _
        rw [unhide HX]
        unfold fmM
        rw [if_neg (by rw [unhide HTE]; decide)]
        rfl
      clear HX
      by_cases hho : ho'.length = 1
      · have f2 : ((ho'.length : Int) != 1) = false := by rw [bne_eq_false_iff_eq]; omega
        obtain ⟨g2, hg2, hc2, hcap2⟩ := ownN_zero (unhide HO2d) hho
        subst hg2
        obtain ⟨h0, hh0⟩ : ∃ h0, h0 = ho'.getD 0 [] := ⟨_, rfl⟩
        rw [← hh0] at hc2 HX1
        have hlt2 : (0 : Int) < (ho'.length : Int) := by omega
        have e2 : (str h0).toList = h0 := toList_str h0
        rw [decide_eq_true hho] at HX1
        clear hh0
        by_cases hem : h0 = []
        · have f3 : (str h0).toList.isEmpty = true := by rw [e2, hem]; rfl
          have f3b : ((str h0).toList == []) = true := by rw [e2, hem]; rfl
          have HX2 : Hid (X = ([], 0, 400)) := by
            show _ = _
            rw [unhide HX1, decide_eq_true hem]
            rfl
          clear hem e2
          go_wp2
          go_ret3
          exact ⟨none, 0, [], 0, 400, rfl, hide (unhide HX2).symm, ⟨bs_none _, fun k hk => by simp [blk] at hk⟩, HB3⟩
        · have f3 : (str h0).toList.isEmpty = false := by rw [e2]; simpa using hem
          have f3b : ((str h0).toList == []) = false := by rw [e2]; simpa using hem
          rw [decide_eq_false hem] at HX1
          clear hem e2
          by_cases hsum : 1 < te'.length + cl'.length
          · have f4 : (1 : Int) < (te'.length : Int) + (cl'.length : Int) := by omega
            have HX2 : Hid (X = ([], 0, 400)) := by
              show _ = _
              rw [unhide HX1, decide_eq_true hsum]
              rfl
            clear hsum
            go_wp2
            go_ret3
            exact ⟨none, 0, [], 0, 400, rfl, hide (unhide HX2).symm, ⟨bs_none _, fun k hk => by simp [blk] at hk⟩, HB3⟩
          · have f4 : ¬ (1 : Int) < (te'.length : Int) + (cl'.length : Int) := by omega
            rw [decide_eq_false hsum] at HX1
            have f5 : ((te'.length : Int) == 1) = false := by rw [beq_eq_false_iff_ne]; omega
            rw [decide_eq_false (show ¬ te'.length = 1 by omega)] at HX1
            by_cases hcl : cl'.length = 0
            · have f6 : ((cl'.length : Int) == 1) = false := by rw [beq_eq_false_iff_ne]; omega
              have HX2 : Hid (X = ([], 0, 0)) := by
                show _ = _
                rw [unhide HX1, decide_eq_true hcl]
                unfold bd8
                simp
              clear HX1 hsum hcl
              obtain ⟨V, c5, hcv, hbV, hsV, hBV⟩ := to_bw [] w3 (by simp)
              have e5 : (str s).extract 0 0 = str [] := cut_to s 0
              have hcv1 : (convert 9 28 (.string ((str s).extract 0 0))).run Tryz.prog w3 = .ok (.slice (some ⟨w3.heap.size, 0, none⟩) 0 c5) V := by rw [e5]; exact hcv
              have hcv2 : (convert 9 28 (.string ⟨#[]⟩)).run Tryz.prog w3 = .ok (.slice (some ⟨w3.heap.size, 0, none⟩) 0 c5) V := hcv
              have hcv3 : (convert 9 28 (.string ByteArray.empty)).run Tryz.prog w3 = .ok (.slice (some ⟨w3.heap.size, 0, none⟩) 0 c5) V := hcv
              have hcv4 : (convert 9 28 (.string (str []))).run Tryz.prog w3 = .ok (.slice (some ⟨w3.heap.size, 0, none⟩) 0 c5) V := hcv
              have HBs5 := hide hBV
              have HB5 : Hid (Below w.heap.size w V) := (unhide HB3).trans (hbV.mono (unhide HB3).size)
              clear hbV hsV hBV hcv e5
              go_wp2
              go_ret3
              exact ⟨_, c5, [], 0, 0, rfl, hide (unhide HX2).symm, ⟨unhide HBs5, fun k hk => by simp [blk] at hk; have := (unhide HB3).size; omega⟩, HB5⟩
            · have hcl1 : cl'.length = 1 := by omega
              have f6 : ((cl'.length : Int) == 1) = true := by rw [beq_iff_eq]; omega
              rw [decide_eq_false hcl] at HX1
              obtain ⟨g3, hg3, hc3, hcap3⟩ := ownN_zero (unhide HO3d) hcl1
              subst hg3
              have hlt3 : (0 : Int) < (cl'.length : Int) := by omega
              have hvl : (cl'.getD 0 []).length ≤ 1000000 := by
                refine (unhide HT).2 _ ?_
                match cl', hcl1 with
                | [x], _ => simp
              have HNU := hide (number8 (cl'.getD 0 []) w3 hvl)
              generalize cl'.getD 0 [] = v at *
              clear hcl hcl1 hsum
              cases hr : rlM v with
              | none =>
                have hnu : nuM v = -1 := by unfold nuM; rw [hr]
                rw [hnu] at HNU
                have HX2 : Hid (X = ([], 0, 400)) := by
                  show _ = _
                  rw [unhide HX1, hr]
                  rfl
                clear HX1 hr hnu
                go_wp2_with fail
                refine (unhide HNU).mono ?_
                rintro e w5 ⟨rfl, HB5'⟩
                have HB5w : Hid (Below w.heap.size w w5) := (unhide HB3).trans ((unhide HB5').mono (unhide HB3).size)
                go_wp2
                go_ret3
                exact ⟨none, 0, [], 0, 400, rfl, hide (unhide HX2).symm, ⟨bs_none _, fun k hk => by simp [blk] at hk⟩, HB5w⟩
              | some n =>
                have hnu : nuM v = (n : Int) := by unfold nuM; rw [hr]
                rw [hnu] at HNU
                have hX := unhide HX1
                rw [hr] at hX
                simp only [Bool.false_eq_true, if_false] at hX
                have hn9 : n < 1000000000 := by
                  unfold rlM at hr
                  split at hr
                  · rename_i hq
                    simp only [Bool.and_eq_true, decide_eq_true_eq] at hq
                    obtain ⟨n', h1, h2, h3⟩ := rlM_some v hq.2.1 (by intro e; rw [e] at hq; simp at hq) hq.1
                    unfold rlM at h1
                    rw [if_pos (by simp [hq])] at h1
                    rw [h1] at hr
                    cases hr
                    exact h3
                  · cases hr
                clear HX1 hr hnu
                go_wp2_with fail
                refine (unhide HNU).mono ?_
                rintro e w5 ⟨rfl, HB5'⟩
                have HB5w : Hid (Below w.heap.size w w5) := (unhide HB3).trans ((unhide HB5').mono (unhide HB3).size)
                clear HNU HB5'
                have f7 : ¬ (n : Int) < 0 := by omega
                by_cases h413 : 32768 < n
                · have f8 : (32768 : Int) < (n : Int) := by omega
                  have HX2 : Hid (X = ([], 0, 413)) := by show _ = _; rw [hX, if_pos h413]; rfl
                  clear hX
                  go_wp2
                  go_ret3
                  exact ⟨none, 0, [], 0, 413, rfl, hide (unhide HX2).symm, ⟨bs_none _, fun k hk => by simp [blk] at hk⟩, HB5w⟩
                · have f8 : ¬ (32768 : Int) < (n : Int) := by omega
                  by_cases hmo : s.length < n
                  · have f9 : (s.length : Int) < (n : Int) := by omega
                    have HX2 : Hid (X = ([], 0, 1)) := by show _ = _; rw [hX, if_neg h413]; unfold bd8; simp [hmo]
                    clear hX
                    go_wp2
                    go_ret3
                    exact ⟨none, 0, [], 0, 1, rfl, hide (unhide HX2).symm, ⟨bs_none _, fun k hk => by simp [blk] at hk⟩, HB5w⟩
                  · have f9 : ¬ (s.length : Int) < (n : Int) := by omega
                    have HX2 : Hid (X = (s.take n, n, 0)) := by show _ = _; rw [hX, if_neg h413]; unfold bd8; simp [hmo]
                    clear hX
                    obtain ⟨V, c5, hcv, hbV, hsV, hBV⟩ := to_bw (s.take n) w5 (by simp; omega)
                    have e5 : (str s).extract 0 n = str (s.take n) := cut_to s n
                    have hl5 : (s.take n).length = n := by simp; omega
                    rw [hl5] at hcv
                    have HBs5 := hide hBV
                    have HB5 : Hid (Below w.heap.size w V) := (unhide HB5w).trans (hbV.mono (unhide HB5w).size)
                    have HL5 := hide hl5
                    clear hbV hsV hBV hl5
                    go_wp2
                    go_ret3
                    exact ⟨_, c5, s.take n, n, 0, (by rw [unhide HL5]; rfl), hide (unhide HX2).symm, ⟨unhide HBs5, fun k hk => by simp [blk] at hk; have := (unhide HB5w).size; omega⟩, HB5⟩
      · have f2 : ((ho'.length : Int) != 1) = true := by rw [bne_iff_ne]; omega
        have HX2 : Hid (X = ([], 0, 400)) := by
          show _ = _
          rw [unhide HX1, decide_eq_false hho]
          rfl
        clear hho
        go_wp2
        go_ret3
        exact ⟨none, 0, [], 0, 400, rfl, hide (unhide HX2).symm, ⟨bs_none _, fun k hk => by simp [blk] at hk⟩, HB3⟩
#print axioms body8
end Go.Proofs.YtonaekkenggmbaaGreatDoor
end
section
set_option linter.unusedVariables false
set_option maxRecDepth 1000000
namespace Go.Proofs.YtonaekkenggmbaaGreatDoor
open Go.RowKit

theorem set4j (w : World) (R : Nat) (a0 a1 a2 a3 v0 v1 v2 v3 : Value) (T : TypeId) (h : w.heap[R]? = some (.cells #[a0, a1, a2, a3] T (0, 0))) :
    ((((w.setCell ⟨R, 0, none⟩ v0).setCell ⟨R, 1, none⟩ v1).setCell ⟨R, 2, none⟩ v2).setCell ⟨R, 3, none⟩ v3).heap[R]? = some (.cells #[v0, v1, v2, v3] T (0, 0)) ∧ (∀ k, k ≠ R → ((((w.setCell ⟨R, 0, none⟩ v0).setCell ⟨R, 1, none⟩ v1).setCell ⟨R, 2, none⟩ v2).setCell ⟨R, 3, none⟩ v3).heap[k]? = w.heap[k]?) ∧ (∀ (u : World) (B : Nat), Below B u w → B ≤ R → Below B u ((((w.setCell ⟨R, 0, none⟩ v0).setCell ⟨R, 1, none⟩ v1).setCell ⟨R, 2, none⟩ v2).setCell ⟨R, 3, none⟩ v3)) := by
  have hne : ∀ k, k ≠ R → ((((w.setCell ⟨R, 0, none⟩ v0).setCell ⟨R, 1, none⟩ v1).setCell ⟨R, 2, none⟩ v2).setCell ⟨R, 3, none⟩ v3).heap[k]? = w.heap[k]? := fun k hk => by
    rw [Below.heap_setCell _ ⟨R, 3, none⟩ _ k hk, Below.heap_setCell _ ⟨R, 2, none⟩ _ k hk, Below.heap_setCell _ ⟨R, 1, none⟩ _ k hk, Below.heap_setCell _ ⟨R, 0, none⟩ _ k hk]
  refine ⟨by rw [heap_setCell_same _ _ 3 _ _ _ (heap_setCell_same _ _ 2 _ _ _ (heap_setCell_same _ _ 1 _ _ _ (heap_setCell_same _ _ 0 _ _ _ h)))]; rfl, hne, fun u B hb hB => ⟨hb.os, hb.tape, hb.output, by simp [World.setCell]; exact hb.size, fun k hk => (hne k (by omega)).trans (hb.block k hk)⟩⟩
theorem splK_len (sep : List UInt8) : ∀ (k : Nat) (s : List UInt8), (Lib.splitK sep 0 k s).length ≤ k + 1
  | 0, s => by simp [Lib.splitK]
  | k + 1, s => by
    simp only [Lib.splitK]
    split
    · simp
    · have := splK_len sep k (s.drop ((Lib.index s sep).toNat + sep.length))
      simp only [List.length_cons]; omega
/-- What the reference says of bytes. -/
def rp3 (f : List UInt8 × List UInt8 × Nat) (H : List Hd) (B : List UInt8 × Nat × Nat) (n : Nat) : Rq × Nat × Nat := if B.2.2 ≠ 0 then (Rq.nil, 0, B.2.2) else (⟨f.1, f.2.1, H, B.1⟩, n + 4 + B.2.1, 0)
def rp2 (L : List (List UInt8)) (s : List UInt8) (n : Nat) : Rq × Nat × Nat :=
  if (lnM (L.getD 0 [])).2.2 ≠ 0 then (Rq.nil, 0, (lnM (L.getD 0 [])).2.2) else if (fr8 (L.drop 1) []).2 ≠ 0 then (Rq.nil, 0, (fr8 (L.drop 1) []).2) else rp3 (lnM (L.getD 0 [])) (fr8 (L.drop 1) []).1 (bdM (fr8 (L.drop 1) []).1 (s.drop (n + 4))) n
def rp1 (s : List UInt8) (n : Nat) : Rq × Nat × Nat := if ((Lib.split (s.take n) [13, 10]).any bad) = true then (Rq.nil, 0, 400) else rp2 (Lib.split (s.take n) [13, 10]) s n
def rpM (s : List UInt8) : Rq × Nat × Nat := if 8192 < whM hend s ∧ (whM hend s < s.length ∨ 8196 ≤ whM hend s) then (Rq.nil, 0, 431) else if whM hend s = s.length then (Rq.nil, 0, 1) else rp1 s (whM hend s)
theorem chR_le (s : List UInt8) : (chR s).2.1 ≤ s.length := by
  unfold chR
  split
  · exact runM_le _ _ _ _
  · exact Nat.zero_le _
theorem bdM_le (H : List Hd) (s : List UInt8) : (bdM H s).2.1 ≤ s.length := by
  unfold bdM bd8
  split
  · exact Nat.zero_le _
  · split
    · exact chR_le s
    · split
      · exact Nat.zero_le _
      · simp only; omega
theorem bs_samej {w w' : World} {a : Option Addr} {cap : Nat} {l : List UInt8} (h : Bs w a cap l) (e : ∀ k, blk a = some k → w'.heap[k]? = w.heap[k]?) : Bs w' a cap l := by
  refine ⟨fun hne => ?_, h.le, h.most, h.nz⟩
  obtain ⟨b, off, rfl, hc⟩ := h.row hne
  refine ⟨b, off, rfl, fun i hi => ?_⟩
  rw [← hc i hi]
  simp only [World.cell?, e b rfl]

theorem bad_of (x : List UInt8) : bad x = (x.contains 13 || x.contains 10) := by
  rw [Bool.eq_iff_iff]
  simp only [bad, List.any_eq_true, Bool.or_eq_true, beq_iff_eq, List.contains_iff_mem]
  constructor
  · rintro ⟨c, hc, rfl | rfl⟩
    · exact .inl hc
    · exact .inr hc
  · rintro (h | h)
    · exact ⟨13, h, .inl rfl⟩
    · exact ⟨10, h, .inr rfl⟩
theorem fr8_lim : ∀ (L : List (List UInt8)) (acc : List Hd), acc.length ≤ 32 → (fr8 L acc).1.length ≤ 32
  | [], acc, h => h
  | l :: L, acc, h => by
    unfold fr8
    split
    · simp
    · split
      · exact fr8_lim L _ (by simp; omega)
      · simp
theorem fd8_len (s : List UInt8) (h : Hd) (e : fd8 s = some h) : h.2.length ≤ s.length := by
  unfold fd8 at e
  split at e
  · cases e
  · cases e
    refine Nat.le_trans (trm_len8 _) ?_
    simp
theorem fr8_len (N : Nat) : ∀ (L : List (List UInt8)) (acc : List Hd), (∀ x ∈ L, x.length ≤ N) → (∀ h ∈ acc, h.2.length ≤ N) → ∀ h ∈ (fr8 L acc).1, h.2.length ≤ N
  | [], acc, _, ha => ha
  | l :: L, acc, hL, ha => by
    unfold fr8
    split
    · intro h hh; simp at hh
    · split
      · rename_i h0 he
        refine fr8_len N L _ (fun x hx => hL x (List.mem_cons_of_mem _ hx)) (fun h hh => ?_)
        rcases List.mem_append.1 hh with h1 | h1
        · exact ha h h1
        · rw [List.mem_singleton] at h1
          rw [h1]
          exact Nat.le_trans (fd8_len l h0 he) (hL l List.mem_cons_self)
      · intro h hh; simp at hh
set_option maxHeartbeats 4000000 in
theorem rparse_new (x : Option Addr) (cx : Nat) (s : List UInt8) (w : World) (hb : Bs w x cx s) (hs : s.length ≤ 140737488353280) :
    Calls Tryz.prog 46 #[.slice x s.length cx] w fun e w' => ∃ hp hc bp bc, e = .returned (.tuple #[.agg #[.string (str (rpM s).1.m), .string (str (rpM s).1.p), .slice hp (rpM s).1.h.length hc, .slice bp (rpM s).1.b.length bc], .int .i64 ((rpM s).2.1 : Int), .int .i64 ((rpM s).2.2 : Int)]) ∧ Hid ((HdR w' hp (rpM s).1.h ∧ Bs w' bp bc (rpM s).1.b) ∧ (∀ k, blk hp = some k → w.heap.size ≤ k) ∧ ∀ k, blk bp = some k → w.heap.size ≤ k) ∧ Hid (Below w.heap.size w w') := by
  obtain ⟨V, hV⟩ : ∃ V, V = w.alloc (.cells #[.string ⟨#[]⟩, .string ⟨#[]⟩, .slice none 0 0, .slice none 0 0] 39) := ⟨_, rfl⟩
  have hbV : Below w.heap.size w V := by rw [hV]; exact (Below.refl _ _).alloc (Nat.le_refl _) _
  have hzV : w.heap.size < V.heap.size := by rw [hV]; simp
  have hrV : V.heap[w.heap.size]? = some (.cells #[.string ⟨#[]⟩, .string ⟨#[]⟩, .slice none 0 0, .slice none 0 0] 39 (0, 0)) := by rw [hV]; exact heap_alloc_new w _
  have kc : (convert 28 9 (.slice x s.length cx)).run Tryz.prog V = .ok (.string (str s)) V := run_str _ _ _ _ _ (hb.below hbV (Nat.le_refl _)).row rfl
  have z : (str s).size = s.length := str_size s
  obtain ⟨X, hX⟩ : ∃ X, X = rpM s := ⟨_, rfl⟩
  rw [← hX]
  unfold rpM at hX
  have HW : Hid (Calls Tryz.prog 53 #[.string ⟨#[13, 10, 13, 10]⟩, .string (str s)] V fun e w' => e = .returned (.int .i64 (whM hend s : Int)) ∧ w' = V) := where_any hend s V (by omega) (by decide) (by decide)
  have hnl := whM_le hend s
  have HRM : Hid (whM hend s ≠ s.length → whM hend s + 4 ≤ s.length) := fun h => by
    unfold whM at h ⊢
    split
    · have h3 := Lib.index_room s hend (by assumption)
      have h4 : hend.length = 4 := rfl
      rw [h4] at h3
      omega
    · rename_i h2
      rw [if_neg h2] at h
      exact absurd rfl h
  generalize whM hend s = n at *
  have HX := hide hX
  have HBV : Hid (Below w.heap.size w V ∧ V.heap[w.heap.size]? = some (.cells #[.string ⟨#[]⟩, .string ⟨#[]⟩, .slice none 0 0, .slice none 0 0] 39 (0, 0))) := ⟨hbV, hrV⟩
  have HZV := hide hzV
  clear hX hbV hzV hrV hb
  go_enter Tryz.func46, Tryz.ntmps46
  go_upto_region 1 with fail
  rw [← hV]
  clear hV
  go_wp2_with fail
  refine (unhide HW).mono ?_
  rintro e V ⟨rfl, rfl⟩
  clear HW
  by_cases h431 : 8192 < n ∧ (n < s.length ∨ 8196 ≤ n)
  · have HX2 : Hid (X = (Rq.nil, 0, 431)) := by show _ = _; rw [unhide HX, if_pos h431]
    obtain ⟨h1, h2⟩ := h431
    have f1 : (8192 : Int) < (n : Int) := by omega
    by_cases h3 : n < s.length
    · have f2 : (n : Int) < (s.length : Int) := by omega
      have hrR := (unhide HBV).2
      have r0 : V.cell? ⟨w.heap.size, 0, none⟩ = some (.string ⟨#[]⟩) := cell_of_row _ _ _ _ _ _ (hrR)
      have r1 : V.cell? ⟨w.heap.size, 1, none⟩ = some (.string ⟨#[]⟩) := cell_of_row _ _ _ _ _ _ (hrR)
      have r2 : V.cell? ⟨w.heap.size, 2, none⟩ = some (.slice none 0 0) := cell_of_row _ _ _ _ _ _ (hrR)
      have r3 : V.cell? ⟨w.heap.size, 3, none⟩ = some (.slice none 0 0) := cell_of_row _ _ _ _ _ _ (hrR)
      have z0 := frozen_of_row V w.heap.size 0 _ _ (hrR)
      have z1 := frozen_of_row V w.heap.size 1 _ _ (hrR)
      have z2 := frozen_of_row V w.heap.size 2 _ _ (hrR)
      have z3 := frozen_of_row V w.heap.size 3 _ _ (hrR)
      obtain ⟨W, hW⟩ : ∃ W, W = (((V.setCell ⟨w.heap.size, 0, none⟩ (.string ⟨#[]⟩)).setCell ⟨w.heap.size, 1, none⟩ (.string ⟨#[]⟩)).setCell ⟨w.heap.size, 2, none⟩ (.slice none 0 0)).setCell ⟨w.heap.size, 3, none⟩ (.slice none 0 0) := ⟨_, rfl⟩
      obtain ⟨s1, s2, s3⟩ := set4j V w.heap.size _ _ _ _ (.string ⟨#[]⟩) (.string ⟨#[]⟩) (.slice none 0 0) (.slice none 0 0) _ hrR
      rw [← hW] at s1 s2 s3
      have q0 : W.cell? ⟨w.heap.size, 0, none⟩ = some (.string ⟨#[]⟩) := cell_of_row _ _ _ _ _ _ s1
      have q1 : W.cell? ⟨w.heap.size, 1, none⟩ = some (.string ⟨#[]⟩) := cell_of_row _ _ _ _ _ _ s1
      have q2 : W.cell? ⟨w.heap.size, 2, none⟩ = some (.slice none 0 0) := cell_of_row _ _ _ _ _ _ s1
      have q3 : W.cell? ⟨w.heap.size, 3, none⟩ = some (.slice none 0 0) := cell_of_row _ _ _ _ _ _ s1
      have HBW : Hid (Below w.heap.size w W) := s3 w _ (unhide HBV).1 (Nat.le_refl _)
      clear hrR s1 s2 s3
      go_wp2
      rw [← hW]
      refine bodyPost_ret (v := .tuple #[.agg #[.string ⟨#[]⟩, .string ⟨#[]⟩, .slice none 0 0, .slice none 0 0], .int .i64 0, .int .i64 431]) (by simp [results, Tryz.results46, go_sem, q0, q1, q2, q3]) rfl ⟨none, 0, none, 0, (by rw [unhide HX2]; rfl), (by rw [unhide HX2]; exact ⟨⟨⟨fun h => absurd rfl h, Nat.zero_le _⟩, bs_none _⟩, fun k hk => by simp [blk] at hk, fun k hk => by simp [blk] at hk⟩), HBW⟩
    · have f2 : ¬ (n : Int) < (s.length : Int) := by omega
      have f3 : (8196 : Int) ≤ (n : Int) := by omega
      have hrR := (unhide HBV).2
      have r0 : V.cell? ⟨w.heap.size, 0, none⟩ = some (.string ⟨#[]⟩) := cell_of_row _ _ _ _ _ _ (hrR)
      have r1 : V.cell? ⟨w.heap.size, 1, none⟩ = some (.string ⟨#[]⟩) := cell_of_row _ _ _ _ _ _ (hrR)
      have r2 : V.cell? ⟨w.heap.size, 2, none⟩ = some (.slice none 0 0) := cell_of_row _ _ _ _ _ _ (hrR)
      have r3 : V.cell? ⟨w.heap.size, 3, none⟩ = some (.slice none 0 0) := cell_of_row _ _ _ _ _ _ (hrR)
      have z0 := frozen_of_row V w.heap.size 0 _ _ (hrR)
      have z1 := frozen_of_row V w.heap.size 1 _ _ (hrR)
      have z2 := frozen_of_row V w.heap.size 2 _ _ (hrR)
      have z3 := frozen_of_row V w.heap.size 3 _ _ (hrR)
      obtain ⟨W, hW⟩ : ∃ W, W = (((V.setCell ⟨w.heap.size, 0, none⟩ (.string ⟨#[]⟩)).setCell ⟨w.heap.size, 1, none⟩ (.string ⟨#[]⟩)).setCell ⟨w.heap.size, 2, none⟩ (.slice none 0 0)).setCell ⟨w.heap.size, 3, none⟩ (.slice none 0 0) := ⟨_, rfl⟩
      obtain ⟨s1, s2, s3⟩ := set4j V w.heap.size _ _ _ _ (.string ⟨#[]⟩) (.string ⟨#[]⟩) (.slice none 0 0) (.slice none 0 0) _ hrR
      rw [← hW] at s1 s2 s3
      have q0 : W.cell? ⟨w.heap.size, 0, none⟩ = some (.string ⟨#[]⟩) := cell_of_row _ _ _ _ _ _ s1
      have q1 : W.cell? ⟨w.heap.size, 1, none⟩ = some (.string ⟨#[]⟩) := cell_of_row _ _ _ _ _ _ s1
      have q2 : W.cell? ⟨w.heap.size, 2, none⟩ = some (.slice none 0 0) := cell_of_row _ _ _ _ _ _ s1
      have q3 : W.cell? ⟨w.heap.size, 3, none⟩ = some (.slice none 0 0) := cell_of_row _ _ _ _ _ _ s1
      have HBW : Hid (Below w.heap.size w W) := s3 w _ (unhide HBV).1 (Nat.le_refl _)
      clear hrR s1 s2 s3
      go_wp2
      rw [← hW]
      refine bodyPost_ret (v := .tuple #[.agg #[.string ⟨#[]⟩, .string ⟨#[]⟩, .slice none 0 0, .slice none 0 0], .int .i64 0, .int .i64 431]) (by simp [results, Tryz.results46, go_sem, q0, q1, q2, q3]) rfl ⟨none, 0, none, 0, (by rw [unhide HX2]; rfl), (by rw [unhide HX2]; exact ⟨⟨⟨fun h => absurd rfl h, Nat.zero_le _⟩, bs_none _⟩, fun k hk => by simp [blk] at hk, fun k hk => by simp [blk] at hk⟩), HBW⟩
  · have hX1 := unhide HX
    rw [if_neg h431] at hX1
    have fg : ¬ (8192 : Int) < (n : Int) ∨ ((8192 : Int) < (n : Int) ∧ ¬ (n : Int) < (s.length : Int) ∧ ¬ (8196 : Int) ≤ (n : Int)) := by omega
    by_cases hnn : n = s.length
    · have HX2 : Hid (X = (Rq.nil, 0, 1)) := by show _ = _; rw [hX1, if_pos hnn]
      have fe : ((n : Int) == (s.length : Int)) = true := by rw [beq_iff_eq]; omega
      have hn8 : n < 8196 := by omega
      clear hX1 HX h431
      rcases fg with f1 | ⟨f1, f2, f3⟩
      · have hrR := (unhide HBV).2
        have r0 : V.cell? ⟨w.heap.size, 0, none⟩ = some (.string ⟨#[]⟩) := cell_of_row _ _ _ _ _ _ (hrR)
        have r1 : V.cell? ⟨w.heap.size, 1, none⟩ = some (.string ⟨#[]⟩) := cell_of_row _ _ _ _ _ _ (hrR)
        have r2 : V.cell? ⟨w.heap.size, 2, none⟩ = some (.slice none 0 0) := cell_of_row _ _ _ _ _ _ (hrR)
        have r3 : V.cell? ⟨w.heap.size, 3, none⟩ = some (.slice none 0 0) := cell_of_row _ _ _ _ _ _ (hrR)
        have z0 := frozen_of_row V w.heap.size 0 _ _ (hrR)
        have z1 := frozen_of_row V w.heap.size 1 _ _ (hrR)
        have z2 := frozen_of_row V w.heap.size 2 _ _ (hrR)
        have z3 := frozen_of_row V w.heap.size 3 _ _ (hrR)
        obtain ⟨W, hW⟩ : ∃ W, W = (((V.setCell ⟨w.heap.size, 0, none⟩ (.string ⟨#[]⟩)).setCell ⟨w.heap.size, 1, none⟩ (.string ⟨#[]⟩)).setCell ⟨w.heap.size, 2, none⟩ (.slice none 0 0)).setCell ⟨w.heap.size, 3, none⟩ (.slice none 0 0) := ⟨_, rfl⟩
        obtain ⟨s1, s2, s3⟩ := set4j V w.heap.size _ _ _ _ (.string ⟨#[]⟩) (.string ⟨#[]⟩) (.slice none 0 0) (.slice none 0 0) _ hrR
        rw [← hW] at s1 s2 s3
        have q0 : W.cell? ⟨w.heap.size, 0, none⟩ = some (.string ⟨#[]⟩) := cell_of_row _ _ _ _ _ _ s1
        have q1 : W.cell? ⟨w.heap.size, 1, none⟩ = some (.string ⟨#[]⟩) := cell_of_row _ _ _ _ _ _ s1
        have q2 : W.cell? ⟨w.heap.size, 2, none⟩ = some (.slice none 0 0) := cell_of_row _ _ _ _ _ _ s1
        have q3 : W.cell? ⟨w.heap.size, 3, none⟩ = some (.slice none 0 0) := cell_of_row _ _ _ _ _ _ s1
        have HBW : Hid (Below w.heap.size w W) := s3 w _ (unhide HBV).1 (Nat.le_refl _)
        clear hrR s1 s2 s3
        go_wp2
        rw [← hW]
        refine bodyPost_ret (v := .tuple #[.agg #[.string ⟨#[]⟩, .string ⟨#[]⟩, .slice none 0 0, .slice none 0 0], .int .i64 0, .int .i64 1]) (by simp [results, Tryz.results46, go_sem, q0, q1, q2, q3]) rfl ⟨none, 0, none, 0, (by rw [unhide HX2]; rfl), (by rw [unhide HX2]; exact ⟨⟨⟨fun h => absurd rfl h, Nat.zero_le _⟩, bs_none _⟩, fun k hk => by simp [blk] at hk, fun k hk => by simp [blk] at hk⟩), HBW⟩
      · have hrR := (unhide HBV).2
        have r0 : V.cell? ⟨w.heap.size, 0, none⟩ = some (.string ⟨#[]⟩) := cell_of_row _ _ _ _ _ _ (hrR)
        have r1 : V.cell? ⟨w.heap.size, 1, none⟩ = some (.string ⟨#[]⟩) := cell_of_row _ _ _ _ _ _ (hrR)
        have r2 : V.cell? ⟨w.heap.size, 2, none⟩ = some (.slice none 0 0) := cell_of_row _ _ _ _ _ _ (hrR)
        have r3 : V.cell? ⟨w.heap.size, 3, none⟩ = some (.slice none 0 0) := cell_of_row _ _ _ _ _ _ (hrR)
        have z0 := frozen_of_row V w.heap.size 0 _ _ (hrR)
        have z1 := frozen_of_row V w.heap.size 1 _ _ (hrR)
        have z2 := frozen_of_row V w.heap.size 2 _ _ (hrR)
        have z3 := frozen_of_row V w.heap.size 3 _ _ (hrR)
        obtain ⟨W, hW⟩ : ∃ W, W = (((V.setCell ⟨w.heap.size, 0, none⟩ (.string ⟨#[]⟩)).setCell ⟨w.heap.size, 1, none⟩ (.string ⟨#[]⟩)).setCell ⟨w.heap.size, 2, none⟩ (.slice none 0 0)).setCell ⟨w.heap.size, 3, none⟩ (.slice none 0 0) := ⟨_, rfl⟩
        obtain ⟨s1, s2, s3⟩ := set4j V w.heap.size _ _ _ _ (.string ⟨#[]⟩) (.string ⟨#[]⟩) (.slice none 0 0) (.slice none 0 0) _ hrR
        rw [← hW] at s1 s2 s3
        have q0 : W.cell? ⟨w.heap.size, 0, none⟩ = some (.string ⟨#[]⟩) := cell_of_row _ _ _ _ _ _ s1
        have q1 : W.cell? ⟨w.heap.size, 1, none⟩ = some (.string ⟨#[]⟩) := cell_of_row _ _ _ _ _ _ s1
        have q2 : W.cell? ⟨w.heap.size, 2, none⟩ = some (.slice none 0 0) := cell_of_row _ _ _ _ _ _ s1
        have q3 : W.cell? ⟨w.heap.size, 3, none⟩ = some (.slice none 0 0) := cell_of_row _ _ _ _ _ _ s1
        have HBW : Hid (Below w.heap.size w W) := s3 w _ (unhide HBV).1 (Nat.le_refl _)
        clear hrR s1 s2 s3
        go_wp2
        rw [← hW]
        refine bodyPost_ret (v := .tuple #[.agg #[.string ⟨#[]⟩, .string ⟨#[]⟩, .slice none 0 0, .slice none 0 0], .int .i64 0, .int .i64 1]) (by simp [results, Tryz.results46, go_sem, q0, q1, q2, q3]) rfl ⟨none, 0, none, 0, (by rw [unhide HX2]; rfl), (by rw [unhide HX2]; exact ⟨⟨⟨fun h => absurd rfl h, Nat.zero_le _⟩, bs_none _⟩, fun k hk => by simp [blk] at hk, fun k hk => by simp [blk] at hk⟩), HBW⟩
    · have hn4 := unhide HRM hnn
      have f1 : ¬ (8192 : Int) < (n : Int) := by omega
      have hn8 : n ≤ 8192 := by omega
      have fe : ((n : Int) == (s.length : Int)) = false := by rw [beq_eq_false_iff_ne]; omega
      rw [if_neg hnn] at hX1
      have HX1 : Hid (X = rp1 s n) := hX1
      have e1 : (str s).extract 0 n = str (s.take n) := cut_to s n
      have HCU := hide (cut8 (s.take n) V (by simp; omega))
      have hX2 := unhide HX1
      unfold rp1 at hX2
      have HLL : Hid (∀ y ∈ Lib.split (s.take n) [13, 10], y.length ≤ 8192) := fun y hy => by
        have := split_len [13, 10] _ (s.take n) y hy
        simp at this
        omega
      have HL1 : Hid (1 ≤ (Lib.split (s.take n) [13, 10]).length ∧ (Lib.split (s.take n) [13, 10]).length ≤ 100000) := by
        refine ⟨?_, ?_⟩
        · unfold Lib.split
          cases Lib.count (s.take n) [13, 10] with
          | zero => simp [Lib.splitK]
          | succ k => simp only [Lib.splitK]; split <;> simp
        · have h1 := splK_len [13, 10] (Lib.count (s.take n) [13, 10]) (s.take n)
          have h2 := Lib.count_le (s.take n) [13, 10]
          unfold Lib.split
          simp at h2
          omega
      generalize Lib.split (s.take n) [13, 10] = L at *
      have HX2 := hide hX2
      clear hX1 hX2 HX1 HX h431 fg hnn
      go_wp2_with fail
      refine (unhide HCU).mono ?_
      rintro e w1 ⟨a1, ca, L', rfl, hL', HO, HB1'⟩
      obtain rfl := unhide hL'
      have HB1 : Hid (Below w.heap.size w w1 ∧ w1.heap[w.heap.size]? = some (.cells #[.string ⟨#[]⟩, .string ⟨#[]⟩, .slice none 0 0, .slice none 0 0] 39 (0, 0))) := ⟨(unhide HBV).1.trans ((unhide HB1').mono (unhide HBV).1.size), ((unhide HB1').block _ (unhide HZV)).trans (unhide HBV).2⟩
      have HZ1 : Hid (w.heap.size < w1.heap.size) := Nat.lt_of_lt_of_le (unhide HZV) (unhide HB1').size
      clear HCU hL' HB1' HBV HZV kc
      obtain ⟨g, hg, hgb, hgl, hcl⟩ := (unhide HO).some (unhide HL1).1
      subst hg
      have HCE := hide hcl
      have hLl := (unhide HL1).2
      have hL1 := (unhide HL1).1
      have hcap := (unhide HO).le.1
      clear hcl hgb hgl
      go_wp2
      go_loopw [44] (fun i wr => ∃ k : Nat, k ≤ L'.length ∧ i = .int .i64 (k : Int) ∧ Hid ((L'.take k).any bad = false) ∧ Hid (Below w1.heap.size w1 wr)) (fun i _ => L'.length - (intOf i).toNat)
      case atStart => exact ⟨0, Nat.zero_le _, rfl, rfl, Below.refl _ _⟩
      case round =>
        obtain ⟨k, hk, rfl, HBD, HBr⟩ := hrel
        have HBw : Hid (Below w.heap.size w wr ∧ wr.heap[w.heap.size]? = some (.cells #[.string ⟨#[]⟩, .string ⟨#[]⟩, .slice none 0 0, .slice none 0 0] 39 (0, 0))) := ⟨(unhide HB1).1.trans ((unhide HBr).mono (unhide HB1).1.size), ((unhide HBr).block _ (unhide HZ1)).trans (unhide HB1).2⟩
        by_cases hlt : k < L'.length
        · have hlt' : (k : Int) < (L'.length : Int) := by omega
          obtain ⟨t, ht⟩ : ∃ t, L'[k]? = some t := ⟨_, List.getElem?_eq_getElem hlt⟩
          have hck : wr.cell? ⟨g, k, none⟩ = some (.string (str t)) := by
            have h1 := unhide HCE k hlt
            rw [show L'.getD k [] = t by rw [List.getD_eq_getElem?_getD, ht]; rfl] at h1
            rw [(unhide HBr).cell (World.block_lt_of_cell? w1 _ h1)]
            exact h1
          have htl : t.length ≤ 8192 := unhide HLL t (List.mem_of_getElem? ht)
          have HBO := hide (bad_of t)
          have HT1 : Hid (∀ w, Calls Tryz.prog 73 #[.int .u8 13, .string (str t)] w fun e w' => e = .returned (.bool (t.contains 13)) ∧ Hid (Below w.heap.size w w')) := fun w => of_any 13 t w (by omega)
          have HT2 : Hid (∀ w, Calls Tryz.prog 73 #[.int .u8 10, .string (str t)] w fun e w' => e = .returned (.bool (t.contains 10)) ∧ Hid (Below w.heap.size w w')) := fun w => of_any 10 t w (by omega)
          have HTK := hide ht
          generalize t.contains 13 = b1 at *
          generalize t.contains 10 = b2 at *
          clear ht
          go_wp2_with fail
          refine (unhide HT1 _).mono ?_
          rintro e w2 ⟨rfl, HB2⟩
          have HBx : Hid (Below w.heap.size w w2 ∧ w2.heap[w.heap.size]? = some (.cells #[.string ⟨#[]⟩, .string ⟨#[]⟩, .slice none 0 0, .slice none 0 0] 39 (0, 0))) := ⟨(unhide HBw).1.trans ((unhide HB2).mono (unhide HBw).1.size), ((unhide HB2).block _ (Nat.lt_of_lt_of_le (unhide HZ1) (unhide HBr).size)).trans (unhide HBw).2⟩
          have HBy : Hid (Below w1.heap.size w1 w2) := (unhide HBr).trans ((unhide HB2).mono (unhide HBr).size)
          have HZ2 : Hid (w.heap.size < w2.heap.size) := Nat.lt_of_lt_of_le (unhide HZ1) (unhide HBy).size
          have HBAD : Hid (bad t = true → X = (Rq.nil, 0, 400)) := fun hb => by
            rw [unhide HX2, if_pos]
            exact List.any_eq_true.2 ⟨t, List.mem_of_getElem? (unhide HTK), hb⟩
          have HNXT : Hid (bad t = false → (L'.take (k + 1)).any bad = false) := fun hb => by
            rw [List.take_add_one, unhide HTK, List.any_append, unhide HBD]
            simp [hb]
          clear hck HB2 HBr HBw
          cases b1 with
          | true =>
            have HX3 : Hid (X = (Rq.nil, 0, 400)) := unhide HBAD (by rw [unhide HBO]; rfl)
            have hrR := (unhide HBx).2
            have r0 : w2.cell? ⟨w.heap.size, 0, none⟩ = some (.string ⟨#[]⟩) := cell_of_row _ _ _ _ _ _ (hrR)
            have r1 : w2.cell? ⟨w.heap.size, 1, none⟩ = some (.string ⟨#[]⟩) := cell_of_row _ _ _ _ _ _ (hrR)
            have r2 : w2.cell? ⟨w.heap.size, 2, none⟩ = some (.slice none 0 0) := cell_of_row _ _ _ _ _ _ (hrR)
            have r3 : w2.cell? ⟨w.heap.size, 3, none⟩ = some (.slice none 0 0) := cell_of_row _ _ _ _ _ _ (hrR)
            have z0 := frozen_of_row w2 w.heap.size 0 _ _ (hrR)
            have z1 := frozen_of_row w2 w.heap.size 1 _ _ (hrR)
            have z2 := frozen_of_row w2 w.heap.size 2 _ _ (hrR)
            have z3 := frozen_of_row w2 w.heap.size 3 _ _ (hrR)
            obtain ⟨W, hW⟩ : ∃ W, W = (((w2.setCell ⟨w.heap.size, 0, none⟩ (.string ⟨#[]⟩)).setCell ⟨w.heap.size, 1, none⟩ (.string ⟨#[]⟩)).setCell ⟨w.heap.size, 2, none⟩ (.slice none 0 0)).setCell ⟨w.heap.size, 3, none⟩ (.slice none 0 0) := ⟨_, rfl⟩
            obtain ⟨s1, s2, s3⟩ := set4j w2 w.heap.size _ _ _ _ (.string ⟨#[]⟩) (.string ⟨#[]⟩) (.slice none 0 0) (.slice none 0 0) _ hrR
            rw [← hW] at s1 s2 s3
            have q0 : W.cell? ⟨w.heap.size, 0, none⟩ = some (.string ⟨#[]⟩) := cell_of_row _ _ _ _ _ _ s1
            have q1 : W.cell? ⟨w.heap.size, 1, none⟩ = some (.string ⟨#[]⟩) := cell_of_row _ _ _ _ _ _ s1
            have q2 : W.cell? ⟨w.heap.size, 2, none⟩ = some (.slice none 0 0) := cell_of_row _ _ _ _ _ _ s1
            have q3 : W.cell? ⟨w.heap.size, 3, none⟩ = some (.slice none 0 0) := cell_of_row _ _ _ _ _ _ s1
            have HBW : Hid (Below w.heap.size w W) := s3 w _ (unhide HBx).1 (Nat.le_refl _)
            clear hrR s1 s2 s3
            go_wp2
            rw [← hW]
            refine bodyPost_ret (v := .tuple #[.agg #[.string ⟨#[]⟩, .string ⟨#[]⟩, .slice none 0 0, .slice none 0 0], .int .i64 0, .int .i64 400]) (by simp [results, Tryz.results46, go_sem, q0, q1, q2, q3]) rfl ⟨none, 0, none, 0, (by rw [unhide HX3]; rfl), (by rw [unhide HX3]; exact ⟨⟨⟨fun h => absurd rfl h, Nat.zero_le _⟩, bs_none _⟩, fun k hk => by simp [blk] at hk, fun k hk => by simp [blk] at hk⟩), HBW⟩
          | false =>
            go_wp2_with fail
            refine (unhide HT2 _).mono ?_
            rintro e w3 ⟨rfl, HB3⟩
            have HBx3 : Hid (Below w.heap.size w w3 ∧ w3.heap[w.heap.size]? = some (.cells #[.string ⟨#[]⟩, .string ⟨#[]⟩, .slice none 0 0, .slice none 0 0] 39 (0, 0))) := ⟨(unhide HBx).1.trans ((unhide HB3).mono (unhide HBx).1.size), ((unhide HB3).block _ (unhide HZ2)).trans (unhide HBx).2⟩
            have HBy3 : Hid (Below w1.heap.size w1 w3) := (unhide HBy).trans ((unhide HB3).mono (unhide HBy).size)
            clear HB3 HBx HBy HT1 HT2
            cases b2 with
            | true =>
              have HX3 : Hid (X = (Rq.nil, 0, 400)) := unhide HBAD (by rw [unhide HBO]; rfl)
              have hrR := (unhide HBx3).2
              have r0 : w3.cell? ⟨w.heap.size, 0, none⟩ = some (.string ⟨#[]⟩) := cell_of_row _ _ _ _ _ _ (hrR)
              have r1 : w3.cell? ⟨w.heap.size, 1, none⟩ = some (.string ⟨#[]⟩) := cell_of_row _ _ _ _ _ _ (hrR)
              have r2 : w3.cell? ⟨w.heap.size, 2, none⟩ = some (.slice none 0 0) := cell_of_row _ _ _ _ _ _ (hrR)
              have r3 : w3.cell? ⟨w.heap.size, 3, none⟩ = some (.slice none 0 0) := cell_of_row _ _ _ _ _ _ (hrR)
              have z0 := frozen_of_row w3 w.heap.size 0 _ _ (hrR)
              have z1 := frozen_of_row w3 w.heap.size 1 _ _ (hrR)
              have z2 := frozen_of_row w3 w.heap.size 2 _ _ (hrR)
              have z3 := frozen_of_row w3 w.heap.size 3 _ _ (hrR)
              obtain ⟨W, hW⟩ : ∃ W, W = (((w3.setCell ⟨w.heap.size, 0, none⟩ (.string ⟨#[]⟩)).setCell ⟨w.heap.size, 1, none⟩ (.string ⟨#[]⟩)).setCell ⟨w.heap.size, 2, none⟩ (.slice none 0 0)).setCell ⟨w.heap.size, 3, none⟩ (.slice none 0 0) := ⟨_, rfl⟩
              obtain ⟨s1, s2, s3⟩ := set4j w3 w.heap.size _ _ _ _ (.string ⟨#[]⟩) (.string ⟨#[]⟩) (.slice none 0 0) (.slice none 0 0) _ hrR
              rw [← hW] at s1 s2 s3
              have q0 : W.cell? ⟨w.heap.size, 0, none⟩ = some (.string ⟨#[]⟩) := cell_of_row _ _ _ _ _ _ s1
              have q1 : W.cell? ⟨w.heap.size, 1, none⟩ = some (.string ⟨#[]⟩) := cell_of_row _ _ _ _ _ _ s1
              have q2 : W.cell? ⟨w.heap.size, 2, none⟩ = some (.slice none 0 0) := cell_of_row _ _ _ _ _ _ s1
              have q3 : W.cell? ⟨w.heap.size, 3, none⟩ = some (.slice none 0 0) := cell_of_row _ _ _ _ _ _ s1
              have HBW : Hid (Below w.heap.size w W) := s3 w _ (unhide HBx3).1 (Nat.le_refl _)
              clear hrR s1 s2 s3
              go_wp2
              rw [← hW]
              refine bodyPost_ret (v := .tuple #[.agg #[.string ⟨#[]⟩, .string ⟨#[]⟩, .slice none 0 0, .slice none 0 0], .int .i64 0, .int .i64 400]) (by simp [results, Tryz.results46, go_sem, q0, q1, q2, q3]) rfl ⟨none, 0, none, 0, (by rw [unhide HX3]; rfl), (by rw [unhide HX3]; exact ⟨⟨⟨fun h => absurd rfl h, Nat.zero_le _⟩, bs_none _⟩, fun k hk => by simp [blk] at hk, fun k hk => by simp [blk] at hk⟩), HBW⟩
            | false =>
              have HN2 := hide (unhide HNXT (by rw [unhide HBO]; rfl))
              go_wp2
              go_roundw
              case rel => exact ⟨k + 1, by omega, by go_num, HN2, HBy3⟩
              case measure => simp [intOf]; omega
        · obtain rfl : k = L'.length := by omega
          have hX3 := unhide HX2
          have hbd := unhide HBD
          rw [List.take_length] at hbd
          rw [if_neg (by rw [hbd]; decide)] at hX3
          unfold rp2 at hX3
          have h0 : L'[0]? = some (L'.getD 0 []) := by rw [List.getD_eq_getElem?_getD, List.getElem?_eq_getElem (by omega)]; rfl
          have hc0 : wr.cell? ⟨g, 0, none⟩ = some (.string (str (L'.getD 0 []))) := by
            have h1 := unhide HCE 0 (by omega)
            rw [(unhide HBr).cell (World.block_lt_of_cell? w1 _ h1)]
            exact h1
          have htl : (L'.getD 0 []).length ≤ 8192 := unhide HLL _ (List.mem_of_getElem? h0)
          have HLI := hide (line8 (L'.getD 0 []) wr (by omega))
          have HNS : Hid (NsO wr (if ca = 1 then some ⟨g, 0, none⟩ else some ⟨g, 1, none⟩) (L'.drop 1)) := ⟨fun hne => by
            have hc1 : ca ≠ 1 := fun e => hne (List.drop_eq_nil_of_le (by omega))
            rw [if_neg hc1]
            refine ⟨g, 1, rfl, fun t x hx => ?_⟩
            rw [List.getElem?_drop] at hx
            have hlt := (List.getElem?_eq_some_iff.1 hx).1
            have h1 := unhide HCE (1 + t) hlt
            rw [show L'.getD (1 + t) [] = x by rw [List.getD_eq_getElem?_getD, hx]; rfl] at h1
            rw [(unhide HBr).cell (World.block_lt_of_cell? w1 _ h1)]
            exact h1⟩
          have HLD : Hid (∀ x ∈ L'.drop 1, x.length ≤ 8192) := fun x hx => unhide HLL x (List.mem_of_mem_drop hx)
          have hdl : (L'.drop 1).length = L'.length - 1 := by simp
          have HDL := hide hdl
          have HFL := hide (fr8_lim (L'.drop 1) [] (by simp))
          have HFN := hide (fr8_len 8192 (L'.drop 1) [] (unhide HLD) (fun h hh => by simp at hh))
          generalize L'.getD 0 [] = l0 at *
          generalize L'.drop 1 = Ls at *
          generalize lnM l0 = f at *
          obtain ⟨fm, fp, fs⟩ := f
          simp only at HLI hX3
          have HX3 := hide hX3
          clear hX3 hbd hlt h0 hdl HX2 HBD
          have hge : ¬ (L'.length : Int) < (L'.length : Int) := by omega
          go_wp2_with fail
          refine (unhide HLI).mono ?_
          rintro e w4 ⟨rfl, HB4'⟩
          have HB4 : Hid (Below w.heap.size w w4 ∧ w4.heap[w.heap.size]? = some (.cells #[.string ⟨#[]⟩, .string ⟨#[]⟩, .slice none 0 0, .slice none 0 0] 39 (0, 0))) := ⟨(unhide HBw).1.trans ((unhide HB4').mono (unhide HBw).1.size), ((unhide HB4').block _ (Nat.lt_of_lt_of_le (unhide HZ1) (unhide HBr).size)).trans (unhide HBw).2⟩
          have HZ4 : Hid (w.heap.size < w4.heap.size) := Nat.lt_of_lt_of_le (Nat.lt_of_lt_of_le (unhide HZ1) (unhide HBr).size) (unhide HB4').size
          have HNS4 := hide ((unhide HNS).below (unhide HB4') (Nat.le_refl _))
          clear HLI hc0 HB4' HBw HBr HNS
          by_cases hfs : fs = 0
          · subst hfs
            have hX4 := unhide HX3
            rw [if_neg (by simp)] at hX4
            have HX4 := hide hX4
            clear hX4 HX3
            by_cases hca : ca = 1
            · subst hca
              obtain rfl : Ls = [] := List.eq_nil_of_length_eq_zero (by have := unhide HDL; omega)
              have HFI := hide (fields8 w4 (some ⟨g, 0, none⟩) 0 [] ⟨fun h => absurd rfl h⟩ (by simp) (fun x hx => by simp at hx))
              rw [show ([] : List (List UInt8)).length = 0 from rfl] at HFI
              go_wp2_with fail
              refine (unhide HFI).mono ?_
              rintro e w5 ⟨ha, hc, H, st, rfl, HHS, HHd, HB5'⟩
              have HB5 : Hid (Below w.heap.size w w5 ∧ w5.heap[w.heap.size]? = some (.cells #[.string ⟨#[]⟩, .string ⟨#[]⟩, .slice none 0 0, .slice none 0 0] 39 (0, 0))) := ⟨(unhide HB4).1.trans ((unhide HB5').mono (unhide HB4).1.size), ((unhide HB5').block _ (unhide HZ4)).trans (unhide HB4).2⟩
              have HZ5 : Hid (w.heap.size < w5.heap.size) := Nat.lt_of_lt_of_le (unhide HZ4) (unhide HB5').size
              have hX5 := unhide HX4
              rw [← unhide HHS] at hX5
              simp only at hX5
              have HOF : Hid (∀ k, blk ha = some k → w.heap.size < k) := fun k hk => Nat.lt_of_lt_of_le (unhide HZ4) ((unhide HHd).2 k hk)
              have HHL : Hid (H.length ≤ 32 ∧ ∀ h ∈ H, h.2.length ≤ 8192) := by
                have h1 := unhide HFL
                have h2 := unhide HFN
                rw [← unhide HHS] at h1 h2
                exact ⟨h1, h2⟩
              have HX5 := hide hX5
              clear HFI HB5' HB4 HZ4 HX4 hX5 HHS HFL HFN
              by_cases hst : st = 0
              · subst hst
                have hX6 := unhide HX5
                rw [if_neg (by simp)] at hX6
                have e6 : (str s).extract (n + 4) s.length = str (s.drop (n + 4)) := cut_from s (n + 4)
                have HBO := hide (body8 ha hc H (s.drop (n + 4)) w5 (unhide HHd).1 (unhide HHL).1 (fun h hh => by have := (unhide HHL).2 h hh; omega) (by simp; omega))
                have HBL := hide (bdM_le H (s.drop (n + 4)))
                unfold rp3 at hX6
                generalize bdM H (s.drop (n + 4)) = BD at *
                obtain ⟨Bb, bn, bst⟩ := BD
                simp only at hX6 HBO HBL
                have HX6 := hide hX6
                clear HX5 hX6
                go_wp2_with fail
                refine (unhide HBO).mono ?_
                rintro e w6 ⟨bx, bcx, B2, n2, st2, rfl, HQ, HBs, HB6'⟩
                obtain ⟨rfl, rfl, rfl⟩ : B2 = Bb ∧ n2 = bn ∧ st2 = bst := by simpa using unhide HQ
                have HB6 : Hid (Below w.heap.size w w6 ∧ w6.heap[w.heap.size]? = some (.cells #[.string ⟨#[]⟩, .string ⟨#[]⟩, .slice none 0 0, .slice none 0 0] 39 (0, 0))) := ⟨(unhide HB5).1.trans ((unhide HB6').mono (unhide HB5).1.size), ((unhide HB6').block _ (unhide HZ5)).trans (unhide HB5).2⟩
                have HHd6 := hide ((unhide HHd).1.below (unhide HB6') (Nat.le_refl _))
                have HOB : Hid (∀ k, blk bx = some k → w.heap.size < k) := fun k hk => Nat.lt_of_lt_of_le (unhide HZ5) ((unhide HBs).2 k hk)
                have HBs6 := hide (unhide HBs).1
                have hn2 : n2 ≤ 140737488353280 := by have := unhide HBL; simp at this; omega
                clear HBO HQ HB5 HB6' HZ5 HHd HBs HBL
                by_cases hs2 : st2 = 0
                · subst hs2
                  have hX7 := unhide HX6
                  rw [if_neg (by simp)] at hX7
                  have HX7 : Hid (X = (⟨fm, fp, H, B2⟩, n + 4 + n2, 0)) := hX7
                  have hrR := (unhide HB6).2
                  have r0 : w6.cell? ⟨w.heap.size, 0, none⟩ = some (.string ⟨#[]⟩) := cell_of_row _ _ _ _ _ _ (hrR)
                  have r1 : w6.cell? ⟨w.heap.size, 1, none⟩ = some (.string ⟨#[]⟩) := cell_of_row _ _ _ _ _ _ (hrR)
                  have r2 : w6.cell? ⟨w.heap.size, 2, none⟩ = some (.slice none 0 0) := cell_of_row _ _ _ _ _ _ (hrR)
                  have r3 : w6.cell? ⟨w.heap.size, 3, none⟩ = some (.slice none 0 0) := cell_of_row _ _ _ _ _ _ (hrR)
                  have z0 := frozen_of_row w6 w.heap.size 0 _ _ (hrR)
                  have z1 := frozen_of_row w6 w.heap.size 1 _ _ (hrR)
                  have z2 := frozen_of_row w6 w.heap.size 2 _ _ (hrR)
                  have z3 := frozen_of_row w6 w.heap.size 3 _ _ (hrR)
                  obtain ⟨W, hW⟩ : ∃ W, W = (((w6.setCell ⟨w.heap.size, 0, none⟩ (.string (str fm))).setCell ⟨w.heap.size, 1, none⟩ (.string (str fp))).setCell ⟨w.heap.size, 2, none⟩ (.slice ha H.length hc)).setCell ⟨w.heap.size, 3, none⟩ (.slice bx B2.length bcx) := ⟨_, rfl⟩
                  obtain ⟨s1, s2, s3⟩ := set4j w6 w.heap.size _ _ _ _ (.string (str fm)) (.string (str fp)) (.slice ha H.length hc) (.slice bx B2.length bcx) _ hrR
                  rw [← hW] at s1 s2 s3
                  have q0 : W.cell? ⟨w.heap.size, 0, none⟩ = some (.string (str fm)) := cell_of_row _ _ _ _ _ _ s1
                  have q1 : W.cell? ⟨w.heap.size, 1, none⟩ = some (.string (str fp)) := cell_of_row _ _ _ _ _ _ s1
                  have q2 : W.cell? ⟨w.heap.size, 2, none⟩ = some (.slice ha H.length hc) := cell_of_row _ _ _ _ _ _ s1
                  have q3 : W.cell? ⟨w.heap.size, 3, none⟩ = some (.slice bx B2.length bcx) := cell_of_row _ _ _ _ _ _ s1
                  have HBW : Hid (Below w.heap.size w W) := s3 w _ (unhide HB6).1 (Nat.le_refl _)
                  have HHW : Hid (HdR W ha H) := (unhide HHd6).same fun k hk _ => s2 k (Nat.ne_of_gt (unhide HOF k hk))
                  have HSW : Hid (Bs W bx bcx B2) := bs_samej (unhide HBs6) fun k hk => s2 k (Nat.ne_of_gt (unhide HOB k hk))
                  clear hrR s1 s2 s3
                  go_wp2
                  rw [← hW]
                  refine bodyPost_ret (v := .tuple #[.agg #[.string (str fm), .string (str fp), .slice ha H.length hc, .slice bx B2.length bcx], .int .i64 ((n : Int) + 4 + (n2 : Int)), .int .i64 0]) (by simp [results, Tryz.results46, go_sem, q0, q1, q2, q3]) rfl ⟨ha, hc, bx, bcx, (by rw [unhide HX7]; rfl), (by rw [unhide HX7]; exact ⟨⟨unhide HHW, unhide HSW⟩, fun k hk => Nat.le_of_lt (unhide HOF k hk), fun k hk => Nat.le_of_lt (unhide HOB k hk)⟩), HBW⟩
                · have fs2 : ((st2 : Int) != 0) = true := by rw [bne_iff_ne]; omega
                  have HX7 : Hid (X = (Rq.nil, 0, st2)) := by show _ = _; rw [unhide HX6, if_pos hs2]
                  clear hs2 HX6
                  have hrR := (unhide HB6).2
                  have r0 : w6.cell? ⟨w.heap.size, 0, none⟩ = some (.string ⟨#[]⟩) := cell_of_row _ _ _ _ _ _ (hrR)
                  have r1 : w6.cell? ⟨w.heap.size, 1, none⟩ = some (.string ⟨#[]⟩) := cell_of_row _ _ _ _ _ _ (hrR)
                  have r2 : w6.cell? ⟨w.heap.size, 2, none⟩ = some (.slice none 0 0) := cell_of_row _ _ _ _ _ _ (hrR)
                  have r3 : w6.cell? ⟨w.heap.size, 3, none⟩ = some (.slice none 0 0) := cell_of_row _ _ _ _ _ _ (hrR)
                  have z0 := frozen_of_row w6 w.heap.size 0 _ _ (hrR)
                  have z1 := frozen_of_row w6 w.heap.size 1 _ _ (hrR)
                  have z2 := frozen_of_row w6 w.heap.size 2 _ _ (hrR)
                  have z3 := frozen_of_row w6 w.heap.size 3 _ _ (hrR)
                  obtain ⟨W, hW⟩ : ∃ W, W = (((w6.setCell ⟨w.heap.size, 0, none⟩ (.string ⟨#[]⟩)).setCell ⟨w.heap.size, 1, none⟩ (.string ⟨#[]⟩)).setCell ⟨w.heap.size, 2, none⟩ (.slice none 0 0)).setCell ⟨w.heap.size, 3, none⟩ (.slice none 0 0) := ⟨_, rfl⟩
                  obtain ⟨s1, s2, s3⟩ := set4j w6 w.heap.size _ _ _ _ (.string ⟨#[]⟩) (.string ⟨#[]⟩) (.slice none 0 0) (.slice none 0 0) _ hrR
                  rw [← hW] at s1 s2 s3
                  have q0 : W.cell? ⟨w.heap.size, 0, none⟩ = some (.string ⟨#[]⟩) := cell_of_row _ _ _ _ _ _ s1
                  have q1 : W.cell? ⟨w.heap.size, 1, none⟩ = some (.string ⟨#[]⟩) := cell_of_row _ _ _ _ _ _ s1
                  have q2 : W.cell? ⟨w.heap.size, 2, none⟩ = some (.slice none 0 0) := cell_of_row _ _ _ _ _ _ s1
                  have q3 : W.cell? ⟨w.heap.size, 3, none⟩ = some (.slice none 0 0) := cell_of_row _ _ _ _ _ _ s1
                  have HBW : Hid (Below w.heap.size w W) := s3 w _ (unhide HB6).1 (Nat.le_refl _)
                  clear hrR s1 s2 s3
                  go_wp2
                  rw [← hW]
                  refine bodyPost_ret (v := .tuple #[.agg #[.string ⟨#[]⟩, .string ⟨#[]⟩, .slice none 0 0, .slice none 0 0], .int .i64 0, .int .i64 (st2 : Int)]) (by simp [results, Tryz.results46, go_sem, q0, q1, q2, q3]) rfl ⟨none, 0, none, 0, (by rw [unhide HX7]; rfl), (by rw [unhide HX7]; exact ⟨⟨⟨fun h => absurd rfl h, Nat.zero_le _⟩, bs_none _⟩, fun k hk => by simp [blk] at hk, fun k hk => by simp [blk] at hk⟩), HBW⟩
              · have fs2 : ((st : Int) != 0) = true := by rw [bne_iff_ne]; omega
                have HX7 : Hid (X = (Rq.nil, 0, st)) := by show _ = _; rw [unhide HX5, if_pos hst]
                clear hst HX5
                have hrR := (unhide HB5).2
                have r0 : w5.cell? ⟨w.heap.size, 0, none⟩ = some (.string ⟨#[]⟩) := cell_of_row _ _ _ _ _ _ (hrR)
                have r1 : w5.cell? ⟨w.heap.size, 1, none⟩ = some (.string ⟨#[]⟩) := cell_of_row _ _ _ _ _ _ (hrR)
                have r2 : w5.cell? ⟨w.heap.size, 2, none⟩ = some (.slice none 0 0) := cell_of_row _ _ _ _ _ _ (hrR)
                have r3 : w5.cell? ⟨w.heap.size, 3, none⟩ = some (.slice none 0 0) := cell_of_row _ _ _ _ _ _ (hrR)
                have z0 := frozen_of_row w5 w.heap.size 0 _ _ (hrR)
                have z1 := frozen_of_row w5 w.heap.size 1 _ _ (hrR)
                have z2 := frozen_of_row w5 w.heap.size 2 _ _ (hrR)
                have z3 := frozen_of_row w5 w.heap.size 3 _ _ (hrR)
                obtain ⟨W, hW⟩ : ∃ W, W = (((w5.setCell ⟨w.heap.size, 0, none⟩ (.string ⟨#[]⟩)).setCell ⟨w.heap.size, 1, none⟩ (.string ⟨#[]⟩)).setCell ⟨w.heap.size, 2, none⟩ (.slice none 0 0)).setCell ⟨w.heap.size, 3, none⟩ (.slice none 0 0) := ⟨_, rfl⟩
                obtain ⟨s1, s2, s3⟩ := set4j w5 w.heap.size _ _ _ _ (.string ⟨#[]⟩) (.string ⟨#[]⟩) (.slice none 0 0) (.slice none 0 0) _ hrR
                rw [← hW] at s1 s2 s3
                have q0 : W.cell? ⟨w.heap.size, 0, none⟩ = some (.string ⟨#[]⟩) := cell_of_row _ _ _ _ _ _ s1
                have q1 : W.cell? ⟨w.heap.size, 1, none⟩ = some (.string ⟨#[]⟩) := cell_of_row _ _ _ _ _ _ s1
                have q2 : W.cell? ⟨w.heap.size, 2, none⟩ = some (.slice none 0 0) := cell_of_row _ _ _ _ _ _ s1
                have q3 : W.cell? ⟨w.heap.size, 3, none⟩ = some (.slice none 0 0) := cell_of_row _ _ _ _ _ _ s1
                have HBW : Hid (Below w.heap.size w W) := s3 w _ (unhide HB5).1 (Nat.le_refl _)
                clear hrR s1 s2 s3
                go_wp2
                rw [← hW]
                refine bodyPost_ret (v := .tuple #[.agg #[.string ⟨#[]⟩, .string ⟨#[]⟩, .slice none 0 0, .slice none 0 0], .int .i64 0, .int .i64 (st : Int)]) (by simp [results, Tryz.results46, go_sem, q0, q1, q2, q3]) rfl ⟨none, 0, none, 0, (by rw [unhide HX7]; rfl), (by rw [unhide HX7]; exact ⟨⟨⟨fun h => absurd rfl h, Nat.zero_le _⟩, bs_none _⟩, fun k hk => by simp [blk] at hk, fun k hk => by simp [blk] at hk⟩), HBW⟩
            · have HFI := hide (fields8 w4 (some ⟨g, 1, none⟩) (ca - 1) Ls (by have := unhide HNS4; rw [if_neg hca] at this; exact this) (by have := unhide HDL; omega) (fun x hx => by have := unhide HLD x hx; omega))
              rw [unhide HDL] at HFI
              clear HNS4
              go_wp2_with fail
              refine (unhide HFI).mono ?_
              rintro e w5 ⟨ha, hc, H, st, rfl, HHS, HHd, HB5'⟩
              have HB5 : Hid (Below w.heap.size w w5 ∧ w5.heap[w.heap.size]? = some (.cells #[.string ⟨#[]⟩, .string ⟨#[]⟩, .slice none 0 0, .slice none 0 0] 39 (0, 0))) := ⟨(unhide HB4).1.trans ((unhide HB5').mono (unhide HB4).1.size), ((unhide HB5').block _ (unhide HZ4)).trans (unhide HB4).2⟩
              have HZ5 : Hid (w.heap.size < w5.heap.size) := Nat.lt_of_lt_of_le (unhide HZ4) (unhide HB5').size
              have hX5 := unhide HX4
              rw [← unhide HHS] at hX5
              simp only at hX5
              have HOF : Hid (∀ k, blk ha = some k → w.heap.size < k) := fun k hk => Nat.lt_of_lt_of_le (unhide HZ4) ((unhide HHd).2 k hk)
              have HHL : Hid (H.length ≤ 32 ∧ ∀ h ∈ H, h.2.length ≤ 8192) := by
                have h1 := unhide HFL
                have h2 := unhide HFN
                rw [← unhide HHS] at h1 h2
                exact ⟨h1, h2⟩
              have HX5 := hide hX5
              clear HFI HB5' HB4 HZ4 HX4 hX5 HHS HFL HFN
              by_cases hst : st = 0
              · subst hst
                have hX6 := unhide HX5
                rw [if_neg (by simp)] at hX6
                have e6 : (str s).extract (n + 4) s.length = str (s.drop (n + 4)) := cut_from s (n + 4)
                have HBO := hide (body8 ha hc H (s.drop (n + 4)) w5 (unhide HHd).1 (unhide HHL).1 (fun h hh => by have := (unhide HHL).2 h hh; omega) (by simp; omega))
                have HBL := hide (bdM_le H (s.drop (n + 4)))
                unfold rp3 at hX6
                generalize bdM H (s.drop (n + 4)) = BD at *
                obtain ⟨Bb, bn, bst⟩ := BD
                simp only at hX6 HBO HBL
                have HX6 := hide hX6
                clear HX5 hX6
                go_wp2_with fail
                refine (unhide HBO).mono ?_
                rintro e w6 ⟨bx, bcx, B2, n2, st2, rfl, HQ, HBs, HB6'⟩
                obtain ⟨rfl, rfl, rfl⟩ : B2 = Bb ∧ n2 = bn ∧ st2 = bst := by simpa using unhide HQ
                have HB6 : Hid (Below w.heap.size w w6 ∧ w6.heap[w.heap.size]? = some (.cells #[.string ⟨#[]⟩, .string ⟨#[]⟩, .slice none 0 0, .slice none 0 0] 39 (0, 0))) := ⟨(unhide HB5).1.trans ((unhide HB6').mono (unhide HB5).1.size), ((unhide HB6').block _ (unhide HZ5)).trans (unhide HB5).2⟩
                have HHd6 := hide ((unhide HHd).1.below (unhide HB6') (Nat.le_refl _))
                have HOB : Hid (∀ k, blk bx = some k → w.heap.size < k) := fun k hk => Nat.lt_of_lt_of_le (unhide HZ5) ((unhide HBs).2 k hk)
                have HBs6 := hide (unhide HBs).1
                have hn2 : n2 ≤ 140737488353280 := by have := unhide HBL; simp at this; omega
                clear HBO HQ HB5 HB6' HZ5 HHd HBs HBL
                by_cases hs2 : st2 = 0
                · subst hs2
                  have hX7 := unhide HX6
                  rw [if_neg (by simp)] at hX7
                  have HX7 : Hid (X = (⟨fm, fp, H, B2⟩, n + 4 + n2, 0)) := hX7
                  have hrR := (unhide HB6).2
                  have r0 : w6.cell? ⟨w.heap.size, 0, none⟩ = some (.string ⟨#[]⟩) := cell_of_row _ _ _ _ _ _ (hrR)
                  have r1 : w6.cell? ⟨w.heap.size, 1, none⟩ = some (.string ⟨#[]⟩) := cell_of_row _ _ _ _ _ _ (hrR)
                  have r2 : w6.cell? ⟨w.heap.size, 2, none⟩ = some (.slice none 0 0) := cell_of_row _ _ _ _ _ _ (hrR)
                  have r3 : w6.cell? ⟨w.heap.size, 3, none⟩ = some (.slice none 0 0) := cell_of_row _ _ _ _ _ _ (hrR)
                  have z0 := frozen_of_row w6 w.heap.size 0 _ _ (hrR)
                  have z1 := frozen_of_row w6 w.heap.size 1 _ _ (hrR)
                  have z2 := frozen_of_row w6 w.heap.size 2 _ _ (hrR)
                  have z3 := frozen_of_row w6 w.heap.size 3 _ _ (hrR)
                  obtain ⟨W, hW⟩ : ∃ W, W = (((w6.setCell ⟨w.heap.size, 0, none⟩ (.string (str fm))).setCell ⟨w.heap.size, 1, none⟩ (.string (str fp))).setCell ⟨w.heap.size, 2, none⟩ (.slice ha H.length hc)).setCell ⟨w.heap.size, 3, none⟩ (.slice bx B2.length bcx) := ⟨_, rfl⟩
                  obtain ⟨s1, s2, s3⟩ := set4j w6 w.heap.size _ _ _ _ (.string (str fm)) (.string (str fp)) (.slice ha H.length hc) (.slice bx B2.length bcx) _ hrR
                  rw [← hW] at s1 s2 s3
                  have q0 : W.cell? ⟨w.heap.size, 0, none⟩ = some (.string (str fm)) := cell_of_row _ _ _ _ _ _ s1
                  have q1 : W.cell? ⟨w.heap.size, 1, none⟩ = some (.string (str fp)) := cell_of_row _ _ _ _ _ _ s1
                  have q2 : W.cell? ⟨w.heap.size, 2, none⟩ = some (.slice ha H.length hc) := cell_of_row _ _ _ _ _ _ s1
                  have q3 : W.cell? ⟨w.heap.size, 3, none⟩ = some (.slice bx B2.length bcx) := cell_of_row _ _ _ _ _ _ s1
                  have HBW : Hid (Below w.heap.size w W) := s3 w _ (unhide HB6).1 (Nat.le_refl _)
                  have HHW : Hid (HdR W ha H) := (unhide HHd6).same fun k hk _ => s2 k (Nat.ne_of_gt (unhide HOF k hk))
                  have HSW : Hid (Bs W bx bcx B2) := bs_samej (unhide HBs6) fun k hk => s2 k (Nat.ne_of_gt (unhide HOB k hk))
                  clear hrR s1 s2 s3
                  go_wp2
                  rw [← hW]
                  refine bodyPost_ret (v := .tuple #[.agg #[.string (str fm), .string (str fp), .slice ha H.length hc, .slice bx B2.length bcx], .int .i64 ((n : Int) + 4 + (n2 : Int)), .int .i64 0]) (by simp [results, Tryz.results46, go_sem, q0, q1, q2, q3]) rfl ⟨ha, hc, bx, bcx, (by rw [unhide HX7]; rfl), (by rw [unhide HX7]; exact ⟨⟨unhide HHW, unhide HSW⟩, fun k hk => Nat.le_of_lt (unhide HOF k hk), fun k hk => Nat.le_of_lt (unhide HOB k hk)⟩), HBW⟩
                · have fs2 : ((st2 : Int) != 0) = true := by rw [bne_iff_ne]; omega
                  have HX7 : Hid (X = (Rq.nil, 0, st2)) := by show _ = _; rw [unhide HX6, if_pos hs2]
                  clear hs2 HX6
                  have hrR := (unhide HB6).2
                  have r0 : w6.cell? ⟨w.heap.size, 0, none⟩ = some (.string ⟨#[]⟩) := cell_of_row _ _ _ _ _ _ (hrR)
                  have r1 : w6.cell? ⟨w.heap.size, 1, none⟩ = some (.string ⟨#[]⟩) := cell_of_row _ _ _ _ _ _ (hrR)
                  have r2 : w6.cell? ⟨w.heap.size, 2, none⟩ = some (.slice none 0 0) := cell_of_row _ _ _ _ _ _ (hrR)
                  have r3 : w6.cell? ⟨w.heap.size, 3, none⟩ = some (.slice none 0 0) := cell_of_row _ _ _ _ _ _ (hrR)
                  have z0 := frozen_of_row w6 w.heap.size 0 _ _ (hrR)
                  have z1 := frozen_of_row w6 w.heap.size 1 _ _ (hrR)
                  have z2 := frozen_of_row w6 w.heap.size 2 _ _ (hrR)
                  have z3 := frozen_of_row w6 w.heap.size 3 _ _ (hrR)
                  obtain ⟨W, hW⟩ : ∃ W, W = (((w6.setCell ⟨w.heap.size, 0, none⟩ (.string ⟨#[]⟩)).setCell ⟨w.heap.size, 1, none⟩ (.string ⟨#[]⟩)).setCell ⟨w.heap.size, 2, none⟩ (.slice none 0 0)).setCell ⟨w.heap.size, 3, none⟩ (.slice none 0 0) := ⟨_, rfl⟩
                  obtain ⟨s1, s2, s3⟩ := set4j w6 w.heap.size _ _ _ _ (.string ⟨#[]⟩) (.string ⟨#[]⟩) (.slice none 0 0) (.slice none 0 0) _ hrR
                  rw [← hW] at s1 s2 s3
                  have q0 : W.cell? ⟨w.heap.size, 0, none⟩ = some (.string ⟨#[]⟩) := cell_of_row _ _ _ _ _ _ s1
                  have q1 : W.cell? ⟨w.heap.size, 1, none⟩ = some (.string ⟨#[]⟩) := cell_of_row _ _ _ _ _ _ s1
                  have q2 : W.cell? ⟨w.heap.size, 2, none⟩ = some (.slice none 0 0) := cell_of_row _ _ _ _ _ _ s1
                  have q3 : W.cell? ⟨w.heap.size, 3, none⟩ = some (.slice none 0 0) := cell_of_row _ _ _ _ _ _ s1
                  have HBW : Hid (Below w.heap.size w W) := s3 w _ (unhide HB6).1 (Nat.le_refl _)
                  clear hrR s1 s2 s3
                  go_wp2
                  rw [← hW]
                  refine bodyPost_ret (v := .tuple #[.agg #[.string ⟨#[]⟩, .string ⟨#[]⟩, .slice none 0 0, .slice none 0 0], .int .i64 0, .int .i64 (st2 : Int)]) (by simp [results, Tryz.results46, go_sem, q0, q1, q2, q3]) rfl ⟨none, 0, none, 0, (by rw [unhide HX7]; rfl), (by rw [unhide HX7]; exact ⟨⟨⟨fun h => absurd rfl h, Nat.zero_le _⟩, bs_none _⟩, fun k hk => by simp [blk] at hk, fun k hk => by simp [blk] at hk⟩), HBW⟩
              · have fs2 : ((st : Int) != 0) = true := by rw [bne_iff_ne]; omega
                have HX7 : Hid (X = (Rq.nil, 0, st)) := by show _ = _; rw [unhide HX5, if_pos hst]
                clear hst HX5
                have hrR := (unhide HB5).2
                have r0 : w5.cell? ⟨w.heap.size, 0, none⟩ = some (.string ⟨#[]⟩) := cell_of_row _ _ _ _ _ _ (hrR)
                have r1 : w5.cell? ⟨w.heap.size, 1, none⟩ = some (.string ⟨#[]⟩) := cell_of_row _ _ _ _ _ _ (hrR)
                have r2 : w5.cell? ⟨w.heap.size, 2, none⟩ = some (.slice none 0 0) := cell_of_row _ _ _ _ _ _ (hrR)
                have r3 : w5.cell? ⟨w.heap.size, 3, none⟩ = some (.slice none 0 0) := cell_of_row _ _ _ _ _ _ (hrR)
                have z0 := frozen_of_row w5 w.heap.size 0 _ _ (hrR)
                have z1 := frozen_of_row w5 w.heap.size 1 _ _ (hrR)
                have z2 := frozen_of_row w5 w.heap.size 2 _ _ (hrR)
                have z3 := frozen_of_row w5 w.heap.size 3 _ _ (hrR)
                obtain ⟨W, hW⟩ : ∃ W, W = (((w5.setCell ⟨w.heap.size, 0, none⟩ (.string ⟨#[]⟩)).setCell ⟨w.heap.size, 1, none⟩ (.string ⟨#[]⟩)).setCell ⟨w.heap.size, 2, none⟩ (.slice none 0 0)).setCell ⟨w.heap.size, 3, none⟩ (.slice none 0 0) := ⟨_, rfl⟩
                obtain ⟨s1, s2, s3⟩ := set4j w5 w.heap.size _ _ _ _ (.string ⟨#[]⟩) (.string ⟨#[]⟩) (.slice none 0 0) (.slice none 0 0) _ hrR
                rw [← hW] at s1 s2 s3
                have q0 : W.cell? ⟨w.heap.size, 0, none⟩ = some (.string ⟨#[]⟩) := cell_of_row _ _ _ _ _ _ s1
                have q1 : W.cell? ⟨w.heap.size, 1, none⟩ = some (.string ⟨#[]⟩) := cell_of_row _ _ _ _ _ _ s1
                have q2 : W.cell? ⟨w.heap.size, 2, none⟩ = some (.slice none 0 0) := cell_of_row _ _ _ _ _ _ s1
                have q3 : W.cell? ⟨w.heap.size, 3, none⟩ = some (.slice none 0 0) := cell_of_row _ _ _ _ _ _ s1
                have HBW : Hid (Below w.heap.size w W) := s3 w _ (unhide HB5).1 (Nat.le_refl _)
                clear hrR s1 s2 s3
                go_wp2
                rw [← hW]
                refine bodyPost_ret (v := .tuple #[.agg #[.string ⟨#[]⟩, .string ⟨#[]⟩, .slice none 0 0, .slice none 0 0], .int .i64 0, .int .i64 (st : Int)]) (by simp [results, Tryz.results46, go_sem, q0, q1, q2, q3]) rfl ⟨none, 0, none, 0, (by rw [unhide HX7]; rfl), (by rw [unhide HX7]; exact ⟨⟨⟨fun h => absurd rfl h, Nat.zero_le _⟩, bs_none _⟩, fun k hk => by simp [blk] at hk, fun k hk => by simp [blk] at hk⟩), HBW⟩
          · have fs2 : ((fs : Int) != 0) = true := by rw [bne_iff_ne]; omega
            have HX7 : Hid (X = (Rq.nil, 0, fs)) := by show _ = _; rw [unhide HX3, if_pos hfs]
            clear hfs HX3
            have hrR := (unhide HB4).2
            have r0 : w4.cell? ⟨w.heap.size, 0, none⟩ = some (.string ⟨#[]⟩) := cell_of_row _ _ _ _ _ _ (hrR)
            have r1 : w4.cell? ⟨w.heap.size, 1, none⟩ = some (.string ⟨#[]⟩) := cell_of_row _ _ _ _ _ _ (hrR)
            have r2 : w4.cell? ⟨w.heap.size, 2, none⟩ = some (.slice none 0 0) := cell_of_row _ _ _ _ _ _ (hrR)
            have r3 : w4.cell? ⟨w.heap.size, 3, none⟩ = some (.slice none 0 0) := cell_of_row _ _ _ _ _ _ (hrR)
            have z0 := frozen_of_row w4 w.heap.size 0 _ _ (hrR)
            have z1 := frozen_of_row w4 w.heap.size 1 _ _ (hrR)
            have z2 := frozen_of_row w4 w.heap.size 2 _ _ (hrR)
            have z3 := frozen_of_row w4 w.heap.size 3 _ _ (hrR)
            obtain ⟨W, hW⟩ : ∃ W, W = (((w4.setCell ⟨w.heap.size, 0, none⟩ (.string ⟨#[]⟩)).setCell ⟨w.heap.size, 1, none⟩ (.string ⟨#[]⟩)).setCell ⟨w.heap.size, 2, none⟩ (.slice none 0 0)).setCell ⟨w.heap.size, 3, none⟩ (.slice none 0 0) := ⟨_, rfl⟩
            obtain ⟨s1, s2, s3⟩ := set4j w4 w.heap.size _ _ _ _ (.string ⟨#[]⟩) (.string ⟨#[]⟩) (.slice none 0 0) (.slice none 0 0) _ hrR
            rw [← hW] at s1 s2 s3
            have q0 : W.cell? ⟨w.heap.size, 0, none⟩ = some (.string ⟨#[]⟩) := cell_of_row _ _ _ _ _ _ s1
            have q1 : W.cell? ⟨w.heap.size, 1, none⟩ = some (.string ⟨#[]⟩) := cell_of_row _ _ _ _ _ _ s1
            have q2 : W.cell? ⟨w.heap.size, 2, none⟩ = some (.slice none 0 0) := cell_of_row _ _ _ _ _ _ s1
            have q3 : W.cell? ⟨w.heap.size, 3, none⟩ = some (.slice none 0 0) := cell_of_row _ _ _ _ _ _ s1
            have HBW : Hid (Below w.heap.size w W) := s3 w _ (unhide HB4).1 (Nat.le_refl _)
            clear hrR s1 s2 s3
            go_wp2
            rw [← hW]
            refine bodyPost_ret (v := .tuple #[.agg #[.string ⟨#[]⟩, .string ⟨#[]⟩, .slice none 0 0, .slice none 0 0], .int .i64 0, .int .i64 (fs : Int)]) (by simp [results, Tryz.results46, go_sem, q0, q1, q2, q3]) rfl ⟨none, 0, none, 0, (by rw [unhide HX7]; rfl), (by rw [unhide HX7]; exact ⟨⟨⟨fun h => absurd rfl h, Nat.zero_le _⟩, bs_none _⟩, fun k hk => by simp [blk] at hk, fun k hk => by simp [blk] at hk⟩), HBW⟩
theorem rparse (x : Option Addr) (cx : Nat) (s : List UInt8) (w : World) (hb : Bs w x cx s) (hs : s.length ≤ 140737488353280) :
    Calls Tryz.prog 46 #[.slice x s.length cx] w fun e w' => ∃ hp hc bp bc, e = .returned (.tuple #[.agg #[.string (str (rpM s).1.m), .string (str (rpM s).1.p), .slice hp (rpM s).1.h.length hc, .slice bp (rpM s).1.b.length bc], .int .i64 ((rpM s).2.1 : Int), .int .i64 ((rpM s).2.2 : Int)]) ∧ Hid (HdR w' hp (rpM s).1.h ∧ Bs w' bp bc (rpM s).1.b) ∧ Hid (Below w.heap.size w w') :=
  (rparse_new x cx s w hb hs).mono fun _ _ ⟨hp, hc, bp, bc, e, h, b⟩ => ⟨hp, hc, bp, bc, e, (unhide h).1, b⟩
#print axioms rparse
end Go.Proofs.YtonaekkenggmbaaGreatDoor
end
section
set_option linter.unusedVariables false
set_option maxRecDepth 100000
namespace Go.Proofs.YtonaekkenggmbaaGreatDoor
open Go.RowKit

theorem occ1 (s : List UInt8) (c : UInt8) (j : Nat) : Lib.occAt s [c] j = true ↔ s[j]? = some c := by
  rw [occ_get]
  constructor
  · intro h; exact h 0 c rfl
  · intro h k d hk
    cases k with
    | zero => simp at hk; subst hk; exact h
    | succ k => simp at hk
theorem et7 (s : List UInt8) : (Lib.index s [32] = -1 ∧ etM 7 s = s.length) ∨ (∃ i : Nat, Lib.index s [32] = (i : Int) ∧ etM 7 s = i ∧ i < s.length) := by
  rcases Lib.index_spec s [32] with ⟨e, hn⟩ | ⟨i, e, hil, ho, hn⟩
  · refine .inl ⟨e, (etM_all 7 s).2 (List.all_eq_true.2 fun c hc => ?_)⟩
    obtain ⟨j, hj⟩ := List.mem_iff_getElem?.1 hc
    have h1 := hn j (Nat.le_of_lt (List.getElem?_eq_some_iff.1 hj).1)
    show (!decide (c.toNat = 32)) = true
    by_cases h2 : c.toNat = 32
    · have : c = 32 := UInt8.toNat_inj.1 h2
      subst this
      rw [(occ1 s 32 j).2 hj] at h1
      cases h1
    · simp [h2]
  · have hi := (occ1 s 32 i).1 ho
    have hlt := (List.getElem?_eq_some_iff.1 hi).1
    refine .inr ⟨i, e, tw_len (isM 7) s i (List.all_eq_true.2 fun c hc => ?_) (by omega) (fun x hx => by rw [hi] at hx; cases hx; rfl), hlt⟩
    obtain ⟨j, hj⟩ := List.mem_iff_getElem?.1 hc
    have hjl := (List.getElem?_eq_some_iff.1 hj).1
    rw [List.length_take] at hjl
    rw [List.getElem?_take, if_pos (by omega)] at hj
    have h1 := hn j (by omega)
    show (!decide (c.toNat = 32)) = true
    by_cases h2 : c.toNat = 32
    · have : c = 32 := UInt8.toNat_inj.1 h2
      subst this
      rw [(occ1 s 32 j).2 hj] at h1
      cases h1
    · simp [h2]
def rf3 (L : List (List UInt8)) : List UInt8 × List UInt8 × Nat :=
  match L with
  | [a, b, c] => if mthB a && (tgtB b && verB c) then (if c = h11 then (if knwB a then (if b.length ≤ 1024 then (a, b, 0) else ([], [], 414)) else ([], [], 501)) else ([], [], 505)) else ([], [], 400)
  | _ => ([], [], 400)
theorem rf_rf3 (l : List UInt8) : rfM l = rf3 (Lib.split l [32]) := rfl
theorem ver_v (v : List UInt8) : ver8 v = !verB v := by
  unfold ver8 verB
  rw [show Lib.hasPrefix v hHTTP = hHTTP.isPrefixOf v from rfl, is1_dig]
  cases h : hHTTP.isPrefixOf v
  · simp
  · have hl := (List.isPrefixOf_iff_prefix.1 h).length_le
    have h5 : hHTTP.length = 5 := rfl
    have hc : cpx v hHTTP = v.drop 5 := by
      unfold cpx
      rw [show Lib.hasPrefix v hHTTP = hHTTP.isPrefixOf v from rfl, h, if_pos rfl, h5]
    have g : ∀ k, (v.drop 5).getD k 0 = v.getD (5 + k) 0 := fun k => by rw [List.getD_eq_getElem?_getD, List.getElem?_drop, ← List.getD_eq_getElem?_getD]
    have hd : decide ((v.drop 5).length = 3) = decide (v.length = 8) := by
      rw [decide_eq_decide, List.length_drop]
      omega
    rw [hc]
    unfold ver3
    rw [g, g, g, hd]
    generalize decide (v.length = 8) = a
    generalize digB (v.getD (5 + 0) 0) = b
    generalize hc' : decide (v.getD (5 + 1) 0 = 46) = c
    generalize digB (v.getD (5 + 2) 0) = d
    cases a <;> cases b <;> cases c <;> cases d <;> rfl
theorem kn_k (m : List UInt8) : kn8 m = !knwB m := by
  unfold kn8 knwB
  generalize (m == [71, 69, 84]) = a
  generalize (m == [80, 79, 83, 84]) = b
  generalize (m == [80, 85, 84]) = c
  generalize (m == [68, 69, 76, 69, 84, 69]) = d
  cases a <;> cases b <;> cases c <;> cases d <;> rfl
theorem ln3_rf (m t v : List UInt8) (hv : etM 7 v = v.length) (ht : t.length ≤ 8192) : ln3 m t v = rf3 [m, t, v] := by
  have a1 : alM m 1 16 2 = mthB m := by
    unfold alM mthB
    rw [show isM 2 = capB from rfl, Bool.and_comm (m.all capB), Bool.and_assoc]
    rfl
  have a2 : (!([47].isPrefixOf t) || !alM t 1 8192 3) = !tgtB t := by
    unfold tgtB alM
    rw [show Lib.hasPrefix t [47] = [47].isPrefixOf t from rfl, show isM 3 = seenB from rfl, decide_eq_true ht]
    cases h : ([47] : List UInt8).isPrefixOf t
    · rfl
    · have : 1 ≤ t.length := by
        cases t with
        | nil => simp at h
        | cons _ _ => simp
      rw [decide_eq_true this]
      simp
  unfold ln3 rf3
  rw [hv, a1, a2, ver_v]
  simp only [decide_true, Bool.not_true, Bool.false_or]
  cases mthB m
  · rfl
  · cases tgtB t
    · rfl
    · cases verB v
      · rfl
      · simp only [Bool.not_true, Bool.or_self, Bool.false_eq_true, if_false, Bool.and_self, if_true, ln4, kn_k]
        by_cases h : v = h11
        · rw [if_pos (by rw [h]; decide), if_pos h]
          cases knwB m
          · rfl
          · simp only [Bool.not_true, Bool.false_eq_true, if_false, if_true]
            by_cases h3 : 1024 < t.length
            · rw [if_pos h3, if_neg (by omega)]; rfl
            · rw [if_neg h3, if_pos (by omega)]
        · rw [if_neg (by rw [beq_iff_eq]; exact h), if_neg h]; rfl
theorem rf3_nil0 (R : List (List UInt8)) : rf3 ([] :: R) = er4 400 := by
  rcases R with _ | ⟨b, _ | ⟨c, _ | ⟨d, R⟩⟩⟩ <;> simp [rf3, mthB, er4]
theorem rf3_nil1 (m : List UInt8) (R : List (List UInt8)) : rf3 (m :: [] :: R) = er4 400 := by
  rcases R with _ | ⟨c, _ | ⟨d, R⟩⟩
  · rfl
  · simp only [rf3]
    rw [show tgtB [] = false from rfl]
    simp [er4]
  · rfl
theorem spl_ne (s : List UInt8) : Lib.split s [32] ≠ [] := by
  rcases et7 s with ⟨h1, h2⟩ | ⟨i, h1, h2, h3⟩
  · rw [spl_miss _ _ h1]; simp
  · rw [spl_hit s [32] i (by simp) h1]; simp
theorem ln_rf (s : List UInt8) (hs : s.length ≤ 8192) : lnM s = rfM s := by
  rw [rf_rf3]
  unfold lnM
  rcases et7 s with ⟨h1, h2⟩ | ⟨i, h1, h2, h3⟩
  · rw [h2, if_pos (by simp), spl_miss _ _ h1]; rfl
  · rw [h2, spl_hit s [32] i (by simp) h1]
    by_cases h0 : i = 0
    · subst h0
      rw [if_pos (by simp), List.take_zero, rf3_nil0]
    · rw [if_neg (by simp; omega)]
      unfold ln2
      have hl2 : (s.drop (i + 1)).length ≤ 8192 := by simp; omega
      rw [show i + ([32] : List UInt8).length = i + 1 from rfl]
      generalize s.take i = m
      generalize s.drop (i + 1) = s2 at *
      rcases et7 s2 with ⟨k1, k2⟩ | ⟨j, k1, k2, k3⟩
      · rw [k2, if_pos (by simp), spl_miss _ _ k1]; rfl
      · rw [k2, spl_hit s2 [32] j (by simp) k1]
        by_cases j0 : j = 0
        · subst j0
          rw [if_pos (by simp), List.take_zero, rf3_nil1]
        · rw [if_neg (by simp; omega), show j + ([32] : List UInt8).length = j + 1 from rfl]
          have ht : (s2.take j).length ≤ 8192 := by simp; omega
          generalize s2.take j = t at *
          generalize s2.drop (j + 1) = v
          rcases et7 v with ⟨l1, l2⟩ | ⟨k, l1, l2, l3⟩
          · rw [spl_miss _ _ l1]
            exact ln3_rf m t v l2 ht
          · unfold ln3
            rw [if_pos (by rw [l2, decide_eq_false (by omega)]; rfl), spl_hit v [32] k (by simp) l1]
            have hne := spl_ne (v.drop (k + ([32] : List UInt8).length))
            generalize Lib.split (v.drop (k + ([32] : List UInt8).length)) [32] = R at *
            cases R with
            | nil => exact absurd rfl hne
            | cons x R => rfl

theorem tok4 : isM 4 = tokB := funext (all256 (fun c => isM 4 c = tokB c) (by decide +kernel))
theorem val6 : isM 6 = valB := funext (all256 (fun c => isM 6 c = valB c) (by decide +kernel))
theorem bl_c (c : UInt8) : blB c = ([32, 9] : List UInt8).contains c := all256 (fun c => blB c = ([32, 9] : List UInt8).contains c) (by decide +kernel) c
theorem dw_get (p : UInt8 → Bool) : ∀ (l : List UInt8) (c : UInt8), (l.dropWhile p)[0]? = some c → p c = false
  | [], c, h => by simp at h
  | x :: l, c, h => by
    rw [List.dropWhile_cons] at h
    split at h
    · exact dw_get p l c h
    · rename_i hx
      simp at h
      subst h
      simpa using hx
theorem trm_first (x : List UInt8) (c : UInt8) (h : (trm x)[0]? = some c) : blB c = false := by
  rw [bl_c]
  exact dw_get _ _ c h
theorem trm_last (x : List UInt8) (c : UInt8) (h : (trm x)[(trm x).length - 1]? = some c) : blB c = false := by
  rw [bl_c]
  rw [← trm_lr] at h
  rw [List.length_reverse] at h
  refine dw_get (fun c => ([32, 9] : List UInt8).contains c) (x.dropWhile (fun c => ([32, 9] : List UInt8).contains c)).reverse c ?_
  generalize (x.dropWhile (fun c => ([32, 9] : List UInt8).contains c)).reverse.dropWhile (fun c => ([32, 9] : List UInt8).contains c) = R at *
  have hl := (List.getElem?_eq_some_iff.1 h).1
  rw [List.length_reverse] at hl
  rw [List.getElem?_reverse (by omega), show R.length - 1 - (R.length - 1) = 0 by omega] at h
  exact h
theorem vlu_trm (x : List UInt8) : vluB (trm x) = (trm x).all valB := by
  unfold vluB
  by_cases h : (trm x).length = 0
  · rw [decide_eq_true h]; simp
  · have h1 := trm_first x _ (gd_get (trm x) 0 (by omega))
    have h2 := trm_last x _ (gd_get (trm x) ((trm x).length - 1) (by omega))
    rw [h1, h2]
    simp
theorem fd_fld (s : List UInt8) (hs : s.length ≤ 8192) : fd8 s = fldM s := by
  have hV : ∀ k, alM (trm (s.drop k)) 0 8192 6 = vluB (trm (s.drop k)) := fun k => by
    rw [vlu_trm]
    unfold alM
    have : (trm (s.drop k)).length ≤ 8192 := Nat.le_trans (trm_len _) (by simp; omega)
    rw [val6, decide_eq_true this]
    simp
  rcases Lib.index_spec s [58] with ⟨e, hn⟩ | ⟨i, e, hil, ho, hn⟩
  · have h0 : fldM s = none := by simp [fldM, Lib.cut, e]
    rw [h0]
    unfold fd8
    rw [if_pos]
    by_cases hl : etM 4 s = s.length
    · rw [decide_eq_true hl]; simp
    · have hlt : etM 4 s < s.length := by have := etM_le 4 s; omega
      have h58 : s.getD (etM 4 s) 0 ≠ 58 := fun h => by
        have h1 := hn (etM 4 s) (by omega)
        rw [(occ1 s 58 _).2 (by rw [gd_get s _ hlt, h])] at h1
        cases h1
      rw [decide_eq_false h58]
      simp
  · have hi := (occ1 s 58 i).1 ho
    have hlt := (List.getElem?_eq_some_iff.1 hi).1
    have hc : Lib.cut s [58] = (s.take i, s.drop (i + 1), true) := by
      unfold Lib.cut
      rw [e, if_pos (by omega)]
      rfl
    unfold fldM
    rw [hc]
    simp only [Bool.true_and]
    by_cases ht : (s.take i).all tokB = true
    · have he : etM 4 s = i := tw_len (isM 4) s i (by rw [tok4]; exact ht) (by omega) (fun x hx => by rw [hi] at hx; cases hx; decide)
      unfold fd8
      rw [he, hV]
      have hg : s.getD i 0 = 58 := by rw [List.getD_eq_getElem?_getD, hi]; rfl
      rw [hg]
      have htl : (s.take i).length = i := by simp; omega
      unfold tknB
      rw [htl, ht, decide_eq_false (show ¬ i = s.length by omega)]
      generalize vluB (trm (s.drop (i + 1))) = V
      by_cases a : i < 1
      · rw [decide_eq_true a, decide_eq_false (show ¬ 0 < i by omega)]; simp
      · rw [decide_eq_false a, decide_eq_true (show 0 < i by omega)]
        by_cases b : 64 < i
        · rw [decide_eq_true b, decide_eq_false (show ¬ i ≤ 64 by omega)]; simp
        · rw [decide_eq_false b, decide_eq_true (show i ≤ 64 by omega)]
          cases V <;> simp
    · have htk : tknB (s.take i) = false := by
        unfold tknB
        rw [Bool.not_eq_true] at ht
        rw [ht]
        simp
      rw [htk]
      simp only [Bool.false_and, Bool.false_eq_true, if_false]
      unfold fd8
      rw [if_pos]
      have hle : etM 4 s < i := by
        refine Classical.byContradiction fun hge => ht ?_
        rw [← tok4]
        have hp : s.take i = (s.takeWhile (isM 4)).take i := by
          have := List.prefix_iff_eq_take.1 (List.takeWhile_prefix (isM 4) (l := s))
          rw [this, List.take_take]
          congr 1
          unfold etM at hge
          omega
        rw [hp]
        refine List.all_eq_true.2 fun c hc => ?_
        have h2 := List.all_takeWhile (p := isM 4) (l := s)
        exact List.all_eq_true.1 h2 c (List.mem_of_mem_take hc)
      have h58 : s.getD (etM 4 s) 0 ≠ 58 := fun h => by
        have h1 := hn (etM 4 s) hle
        rw [(occ1 s 58 _).2 (by rw [gd_get s _ (by omega), h])] at h1
        cases h1
      rw [decide_eq_false h58]
      simp
theorem fr_rh : ∀ (L : List (List UInt8)) (acc : List Hd), (∀ x ∈ L, x.length ≤ 8192) → fr8 L acc = rhM L acc
  | [], acc, _ => rfl
  | l :: L, acc, h => by
    simp only [fr8, rhM, fd_fld l (h l List.mem_cons_self)]
    split
    · rfl
    · cases fldM l with
      | none => rfl
      | some x => exact fr_rh L _ fun y hy => h y (List.mem_cons_of_mem _ hy)
theorem lowl (c : UInt8) : lowB (lowB c) = lowB c := all256 (fun c => lowB (lowB c) = lowB c) (by decide +kernel) c
theorem sm2 (l : List UInt8) : sm (sm l) = sm l := by
  unfold sm
  rw [List.map_map]
  exact List.map_congr_left fun c _ => lowl c
theorem rh_sm : ∀ (L : List (List UInt8)) (acc : List Hd), (∀ h ∈ acc, sm h.1 = h.1) → ∀ h ∈ (rhM L acc).1, sm h.1 = h.1
  | [], acc, ha => ha
  | l :: L, acc, ha => by
    unfold rhM
    split
    · intro h hh; simp at hh
    · split
      · rename_i h0 he
        refine rh_sm L _ (fun h hh => ?_)
        rcases List.mem_append.1 hh with h1 | h1
        · exact ha h h1
        · rw [List.mem_singleton] at h1
          rw [h1]
          unfold fldM at he
          split at he
          · cases he; exact sm2 _
          · cases he
      · intro h hh; simp at hh
theorem val_vals (nm : List UInt8) (H : List Hd) (hH : ∀ h ∈ H, sm h.1 = h.1) : valE nm H = vals nm H := by
  unfold valE vals
  congr 1
  refine List.filter_congr fun h hh => ?_
  rw [hH h hh, Bool.eq_iff_iff]
  simp
end Go.Proofs.YtonaekkenggmbaaGreatDoor
end
