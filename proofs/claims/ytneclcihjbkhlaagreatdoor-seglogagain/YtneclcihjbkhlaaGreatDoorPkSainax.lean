/-
  seglog: Append.; seglog: Append.; seglog: slices.Delete of segments.; seglog: dropFirst, Trim.; seglog: Trim.
-/
import Derived.Test.YtneclcihjbkhlaaGreatDoorPkSainar
import Derived.Test.YtneclcihjbkhlaaGreatDoorPkSainas
import Derived.Test.YtneclcihjbkhlaaGreatDoorPkSainav
import Derived.Test.YtneclcihjbkhlaaGreatDoorPkSainaw
import Derived.Lib.SliceRun
import Derived.Deep.RegionLaw
section
set_option linter.unusedVariables false
set_option maxRecDepth 1000000
namespace Go.Proofs.YtneclcihjbkhlaaGreatDoor
open Go.RowKit Go.Maps

def frameE (l : List UInt8) : List UInt8 × Nat := if 65536 < l.length then ([], 4) else (frameOf l, 0)
theorem frame_any (a : Option Addr) (n cap : Nat) (l : List UInt8) (w : World) (hB : Bs w a cap l) (hn : n = l.length) :
    Calls Tryz.prog 63 #[.slice a n cap] w fun e w' => ∃ a' cap' r, ∃ E : Nat, e = .returned (.tuple #[.slice a' r.length cap', .int .i64 (E : Int)]) ∧ Hid ((r, E) = frameE l) ∧ OwnB w' w.heap.size a' cap' r ∧ Below w.heap.size w w' := by
  by_cases h : 65536 < l.length
  · refine (frame_big a n cap w (by omega)).mono ?_
    rintro e w' ⟨rfl, rfl⟩
    exact ⟨none, 0, [], 4, rfl, by show _ = _; rw [frameE, if_pos h], OwnB.nil _ _, Below.refl _ _⟩
  · refine (frame_ok a n cap l w hB hn h).mono ?_
    rintro e w' ⟨a', cap', r, rfl, hr, ho, hb⟩
    exact ⟨a', cap', r, 0, rfl, by show _ = _; rw [frameE, if_neg h, hr.out], ho, hb⟩
theorem form_len (n : Nat) (h : n ≤ 9223372036854775807) : (form n).length ≤ 9 ∧ 1 ≤ (form n).length := by
  unfold form
  split
  · simp
  · have : nb n ≤ 8 := (nb_pos n).2
    simp [be_length]
    omega
/-- The frames of records, one behind the other: how many bytes. -/
def flN : Nat → List (List UInt8) → Nat
  | _, [] => 0
  | n, r :: rs => (frmN n r).length + flN (n + 1) rs
theorem flN_snoc : ∀ (rs : List (List UInt8)) (n : Nat) (r : List UInt8), flN n (rs ++ [r]) = flN n rs + (frmN (n + rs.length) r).length
  | [], n, r => by simp [flN]
  | a :: rs, n, r => by
    show _ + flN (n + 1) (rs ++ [r]) = _
    rw [flN_snoc rs (n + 1) r]
    simp only [flN, List.length_cons]
    rw [show n + 1 + rs.length = n + (rs.length + 1) by omega]
    omega
/-- A log as its calls leave it. -/
structure Wf (S : List Sg) : Prop where
  ch : ∀ i s t, S[i]? = some s → S[i + 1]? = some t → t.first = s.next ∧ s.recs ≠ []
  f1 : ∀ s ∈ S, 1 ≤ s.first
  sz : ∀ s ∈ S, s.size = flN s.first s.recs
theorem Wf.rise {S : List Sg} (h : Wf S) : ∀ (d i : Nat) (s t : Sg), S[i]? = some s → S[i + d + 1]? = some t → s.first < t.first
  | 0, i, s, t, h1, h2 => by
    obtain ⟨e1, e2⟩ := h.ch i s t h1 h2
    rw [e1]
    have := List.length_pos_iff.2 e2
    unfold Sg.next
    omega
  | d + 1, i, s, t, h1, h2 => by
    have hlt := (List.getElem?_eq_some_iff.1 h2).1
    obtain ⟨u, hu⟩ : ∃ u, S[i + d + 1]? = some u := ⟨_, List.getElem?_eq_getElem (by omega)⟩
    have a := h.rise d i s u h1 hu
    obtain ⟨e1, e2⟩ := h.ch (i + d + 1) u t hu h2
    rw [e1]
    unfold Sg.next
    omega
theorem Wf.apart {S : List Sg} (h : Wf S) {n : Nat} {s : Sg} (hn : S[n]? = some s) : ∀ i u, i < n → S[i]? = some u → u.first ≠ s.first := fun i u hi hu => by
  have := h.rise (n - i - 1) i u s hu (by rw [show i + (n - i - 1) + 1 = n by omega]; exact hn)
  omega
/-- Where the last segment is full, all begin ahead of the next number. -/
theorem Wf.under {S : List Sg} (h : Wf S) (hf : fullS S) {i : Nat} {u : Sg} (hu : S[i]? = some u) : u.first < nxS S := by
  have hlt := (List.getElem?_eq_some_iff.1 hu).1
  obtain ⟨n, hn⟩ : ∃ n, S.length = n + 1 := ⟨S.length - 1, by omega⟩
  obtain ⟨s, hs⟩ : ∃ s, S[n]? = some s := ⟨_, List.getElem?_eq_getElem (by omega)⟩
  have hl : S.getLast? = some s := by rw [getLast_at S n hn]; exact hs
  have h4 := hf s hl
  have hne : s.recs ≠ [] := by
    intro e
    have := h.sz s (List.mem_of_getElem? hs)
    rw [e] at this
    simp [flN] at this
    omega
  have hpos := List.length_pos_iff.2 hne
  have hnx : nxS S = s.first + s.recs.length := by unfold nxS; rw [hl]; rfl
  by_cases hi : i = n
  · subst hi
    rw [hs] at hu
    obtain rfl := Option.some.inj hu
    omega
  · have := h.rise (n - i - 1) i u s hu (by rw [show i + (n - i - 1) + 1 = n by omega]; exact hs)
    omega
/-- The file that the next record goes into. -/
def apN (S : List Sg) : Nat := match S.getLast? with | some s => if s.size < 4096 then s.first else nxS S | none => nxS S
def apD (M : Md) (S : List Sg) : Md := match S.getLast? with | some s => if s.size < 4096 then M else syM M S | none => M
/-- The segments with one record more. -/
def apS (S : List Sg) (r : List UInt8) : List Sg := match S.getLast? with
  | some s => if s.size < 4096 then S.take (S.length - 1) ++ [s.put r (frmN (nxS S) r).length] else S ++ [(⟨nxS S, [], 0⟩ : Sg).put r (frmN (nxS S) r).length]
  | none => S ++ [(⟨nxS S, [], 0⟩ : Sg).put r (frmN (nxS S) r).length]
/-- Why a record is refused. -/
def apE (M : Md) (S : List Sg) (r : List UInt8) : Int := if nxS S = 9223372036854775807 then 5 else if 65536 < (form (nxS S) ++ r).length then 4 else (apD M S).writeE (nmS (apN S)) (frmN (nxS S) r).length
theorem recs_le {S : List Sg} {s : Sg} (h : s ∈ S) : s.recs.length ≤ (S.flatMap (·.recs)).length := by
  induction S with
  | nil => cases h
  | cons a S ih =>
    simp only [List.flatMap_cons, List.length_append]
    rcases List.mem_cons.1 h with rfl | h
    · omega
    · have := ih h; omega
theorem size_le {S : List Sg} {s : Sg} (h : s ∈ S) : s.size ≤ bySz S := by
  unfold bySz
  induction S with
  | nil => cases h
  | cons a S ih =>
    simp only [List.map_cons, List.sum_cons]
    rcases List.mem_cons.1 h with rfl | h
    · omega
    · have := ih h; omega
#print axioms Wf.apart
end Go.Proofs.YtneclcihjbkhlaaGreatDoor
end
section
set_option linter.unusedVariables false
set_option maxRecDepth 1000000
namespace Go.Proofs.YtneclcihjbkhlaaGreatDoor
open Go.RowKit Go.Maps

/-- What Append says and leaves. -/
def ApR (w : World) (g : Nat → Tg) (B D : Nat) (M : Md) (N : Nat) (S : List Sg) (rec : List UInt8) (w' : World) (n : Nat) (E : Int) : Prop :=
  E = apE M S rec ∧ ((E = 0 ∧ n = nxS S ∧ RL w w' g B D ((apD M S).write (nmS (apN S)) (frmN (nxS S) rec)) (N + 2) (apS S rec)) ∨ (E ≠ 0 ∧ n = 0 ∧ ∃ M', (M' = M ∨ M' = apD M S) ∧ RL w w' g B D M' (N + 2) S))
theorem write_bad {M : Md} {n : Nm} {b : List UInt8} (h : M.writeE n b.length ≠ 0) : M.write n b = M := by unfold Md.write; rw [if_neg h]
set_option maxHeartbeats 16000000 in
theorem append5 (w0 : World) (g : Nat → Tg) (B D : Nat) (P : Option Addr) (pc : Nat) (l : List Gt) (S : List Sg) (M : Md) (N : Nat) (x : Option Addr) (xc : Nat) (rec : List UInt8) (w : World) (hE : EnvS w0) (hL : LW w0 w g) (h : LgS w g B D P pc l S) (hd : DK w g 0 D M N) (ok : SOk S) (wf : Wf S) (hN : N ≤ 1300) (hx : Bs w x xc rec) (hxt : ∀ k, blk x = some k → k < w.heap.size ∧ ¬ X01 (g k)) (hxl : rec.length ≤ 1000000)
    (hsl : S.length + 1 ≤ 1000000) (hsr : (S.flatMap (·.recs)).length + 1 ≤ 1000000) (hsz : bySz S + 70000 ≤ 9000000000000000000) (hsy : fullS S → syE M S = 0) :
    Calls Tryz.prog 22 #[.pointer (some ⟨B, 0, none⟩), .slice x rec.length xc] w fun e w' => ∃ (n : Nat) (E : Int), e = .returned (.tuple #[.int .i64 (n : Int), .int .i64 E]) ∧ ApR w g B D M N S rec w' n E := by
  have HU := hide (unmade5 h.c0)
  have HNX := hide (next5 g B D P pc l S w h ok)
  have hnm : nxS S ≤ 9223372036854775807 := by
    unfold nxS
    cases hg : S.getLast? with
    | none => simp
    | some s => exact ok.nx s (List.mem_of_getLast? hg)
  have HAR : Hid (∀ w' n E, (E = apE M S rec ∧ ((E = 0 ∧ n = nxS S ∧ RL w w' g B D ((apD M S).write (nmS (apN S)) (frmN (nxS S) rec)) (N + 2) (apS S rec)) ∨ (E ≠ 0 ∧ n = 0 ∧ ∃ M', (M' = M ∨ M' = apD M S) ∧ RL w w' g B D M' (N + 2) S))) → ApR w g B D M N S rec w' n E) := fun _ _ _ h => h
  have HAE0 : Hid (apE M S rec = if nxS S = 9223372036854775807 then 5 else if 65536 < (form (nxS S) ++ rec).length then 4 else (apD M S).writeE (nmS (apN S)) (frmN (nxS S) rec).length) := rfl
  have HFD : Hid (frmN (nxS S) rec = frameOf (form (nxS S) ++ rec)) := rfl
  obtain ⟨n, hn⟩ : ∃ n, n = nxS S := ⟨_, rfl⟩
  rw [← hn] at HNX hnm HAE0 HFD
  have HN0 := hide hn
  have HH := hide h
  have HD := hide hd
  have HLW := hide hL
  have HEE := hide hE
  have HX := hide hx
  have HXT0 := hide hxt
  have HWF := hide wf
  have HOK := hide ok
  have HSY := hide hsy
  have hxn : x = none → xc = 0 := hx.nz
  clear h hd hL hE hx hxt wf ok hsy hn
  unfold ApR
  rw [← unhide HN0]
  have HAR2 : Hid True := trivial
  clear HAR HAR2
  by_cases hmx : n = 9223372036854775807
  · have e0 : ((n : Int) == 9223372036854775807) = true := by rw [hmx]; rfl
    have HAE : Hid (apE M S rec = 5) := by show _ = _; rw [unhide HAE0, if_pos hmx]
    clear HAE0 hmx
    go_enter Tryz.func22, Tryz.ntmps22
    go_wp2_with fail
    refine (unhide HU).mono ?_
    rintro e v0 ⟨rfl, hv0⟩
    have hv1 := hv0.symm
    subst hv1
    clear hv0 HU
    go_wp2_with fail
    refine (unhide HNX).mono ?_
    rintro e v1 ⟨rfl, HB1⟩
    clear HNX
    go_wp2_with fail
    go_ret2
    exact ⟨0, 5, rfl, (unhide HAE).symm, .inr ⟨by decide, rfl, M, .inl rfl, (RL.same (unhide HH) (unhide HD) (unhide HB1)).monoN (by omega)⟩⟩
  have e0 : ((n : Int) == 9223372036854775807) = false := by rw [beq_eq_false_iff_ne]; omega
  have HAE1 : Hid (apE M S rec = if 65536 < (form n ++ rec).length then 4 else (apD M S).writeE (nmS (apN S)) (frmN n rec).length) := by show _ = _; rw [unhide HAE0, if_neg hmx]
  have hfm := (form_len n hnm).1
  have HNU : Hid (∀ v, Calls Tryz.prog 64 #[.slice none 0 0, .int .i64 (n : Int)] v fun e w' => ∃ a' cap' r, e = .returned (.slice a' r.length cap') ∧ Hid (r = [] ++ form (n : Int).toNat) ∧ OwnB w' v.heap.size a' cap' r ∧ Below v.heap.size v w') := fun v => number_any none 0 [] (n : Int) v (bs_nil v) (by simp) (by omega) (by omega)
  clear HAE0
  go_enter Tryz.func22, Tryz.ntmps22
  go_wp2_with fail
  refine (unhide HU).mono ?_
  rintro e v0 ⟨rfl, hv0⟩
  have hv1 := hv0.symm
  subst hv1
  clear hv0 HU
  go_wp2_with fail
  refine (unhide HNX).mono ?_
  rintro e v1 ⟨rfl, HB1⟩
  clear HNX
  go_wp2_with fail
  refine (unhide HNU _).mono ?_
  rintro e v2 ⟨a1, c1, r1, rfl, hr1, ho1, hb2⟩
  have hrf : r1 = form n := by have := unhide hr1; rw [Int.toNat_natCast] at this; simpa using this
  have HRF := hide hrf
  have hr1l : r1.length ≤ 9 := by rw [hrf]; exact hfm
  have HB2 : Hid (Below w.heap.size w v2) := (unhide HB1).trans (hb2.mono (unhide HB1).size)
  have hrow2 := ((unhide HX).below (unhide HB2) (Nat.le_refl _)).row
  have hb2s := hb2.size
  clear HNU hr1 hrf
  go_wp2_with (at_builtin; refine wp_app _ rfl _ _ rfl v1.heap.size a1 c1 r1 rfl ho1 x xc rec rec.length rfl rfl hrow2 hxn (by omega) hb2s ?_; intro a2 c2 r2 v3 HR2 ho2 hg2)
  have HB3 : Hid (Below w.heap.size w v3) := below_grown (unhide HB2) hg2 (Nat.le_refl _) (fun k hk => by have := (ho1.lt k hk).1; have := (unhide HB1).size; omega)
  have HR2F : Hid (r2 = form n ++ rec) := by show _ = _; rw [unhide HR2, unhide HRF]
  have HFR := hide (frame_any a2 r2.length c2 r2 v3 ho2.toBs rfl)
  clear ho1 hb2 hrow2 hb2s HR2 HRF ho2 hg2 HB2 HB1 hr1l
  refine (unhide HFR).mono ?_
  rintro e v4 ⟨a3, c3, fb, E, rfl, hfe, ho4, hb4⟩
  have HB4 : Hid (Below w.heap.size w v4) := (unhide HB3).trans (hb4.mono (unhide HB3).size)
  have hw3 := (unhide HB3).size
  clear HFR HB3
  by_cases hbig : 65536 < r2.length
  · obtain ⟨rfl, rfl⟩ : fb = [] ∧ E = 4 := by
      have := unhide hfe
      rw [frameE, if_pos hbig] at this
      simpa using this
    have HAE : Hid (apE M S rec = 4) := by show _ = _; rw [unhide HAE1, if_pos (by rw [← unhide HR2F]; exact hbig)]
    clear hfe hbig HAE1
    go_wp2_with fail
    go_ret2
    exact ⟨0, 4, rfl, (unhide HAE).symm, .inr ⟨by decide, rfl, M, .inl rfl, (RL.same (unhide HH) (unhide HD) (unhide HB4)).monoN (by omega)⟩⟩
  obtain ⟨hfbe, rfl⟩ : fb = frmN n rec ∧ E = 0 := by
    have := unhide hfe
    rw [frameE, if_neg hbig] at this
    simp only [Prod.mk.injEq] at this
    rw [unhide HFD, ← unhide HR2F]
    exact this
  have HAE2 : Hid (apE M S rec = (apD M S).writeE (nmS (apN S)) (frmN n rec).length) := by show _ = _; rw [unhide HAE1, if_neg (by rw [← unhide HR2F]; exact hbig)]
  have hfl7 : fb.length = r2.length + 7 := by rw [hfbe, unhide HFD, ← unhide HR2F]; exact frameOf_length r2
  have hfl : fb.length ≤ 65600 := by omega
  have HFB := hide hfbe
  have HO4 := hide ho4
  let g4 : Nat → Tg := fun b => if b < w.heap.size then g b else .o
  have st4 : St w v4 g g4 (fun _ => False) := (St.ofBelow g _ (unhide HB4)).tag (fun k hk => if_pos hk)
  have hh4 := (unhide HH).keep st4 (fun _ _ e => e)
  have hd4 := (unhide HD).keep1 (st4.mono (fun t e => e.elim))
  have hL4 := (unhide HLW).st2 st4 (fun e => e)
  have HST4 : Hid (St w v4 g g4 X01) := st4.mono (fun t e => e.elim)
  have HX4 := hide ((unhide HX).below (unhide HB4) (Nat.le_refl _))
  have HXT : Hid (∀ k, blk x = some k → k < v4.heap.size ∧ ¬ X01 (g4 k)) := fun k hk => ⟨Nat.lt_of_lt_of_le (unhide HXT0 k hk).1 (unhide HB4).size, by rw [st4.ag k (unhide HXT0 k hk).1]; exact (unhide HXT0 k hk).2⟩
  have hft : ∀ k, blk a3 = some k → k < v4.heap.size ∧ ¬ X01 (g4 k) := fun k hk => ⟨(ho4.lt k hk).2, by
    have h1 := (ho4.lt k hk).1
    have : g4 k = .o := if_neg (by omega)
    rw [this]; exact x01o⟩
  by_cases hin : ∃ s, S.getLast? = some s ∧ s.size < 4096
  · obtain ⟨s1, hl1, hs4⟩ := hin
    have HWR := hide (write_in w0 g4 B D P pc l S M N (n : Int) a3 c3 fb s1 v4 (unhide HEE) hL4 hh4 hd4 (unhide HOK) (by omega) ho4.toBs hfl hl1 hs4)
    obtain ⟨n1, hn1⟩ : ∃ n1, S.length = n1 + 1 := by
      cases S with
      | nil => cases hl1
      | cons a r => exact ⟨r.length, rfl⟩
    have hs1 : S[n1]? = some s1 := by rw [← getLast_at S n1 hn1]; exact hl1
    have hn16 : n1 ≤ 1000000 := by omega
    have hmem := List.mem_of_getElem? hs1
    have hrm : s1.recs.length ≤ 1000000 := by
      have := recs_le hmem
      omega
    have hzm : s1.size + fb.length ≤ 9000000000000000000 := by
      have := size_le hmem
      omega
    have HAP : Hid (∀ i u, i < n1 → S[i]? = some u → u.first ≠ s1.first) := (unhide HWF).apart hs1
    obtain ⟨SF, hSF⟩ : ∃ SF, SF = S.take n1 ++ [s1.put rec fb.length] := ⟨_, rfl⟩
    have HSF := hide hSF
    have HSE : Hid (apS S rec = SF) := by
      show _ = _
      rw [hSF, hfbe]
      unfold apS
      rw [hl1]
      simp only
      rw [if_pos hs4, hn1, ← unhide HN0]
      rfl
    have HDD : Hid (apD M S = M ∧ apN S = s1.first) := by
      refine ⟨?_, ?_⟩
      · unfold apD; rw [hl1]; exact if_pos hs4
      · unfold apN; rw [hl1]; exact if_pos hs4
    obtain ⟨M5, hM5⟩ : ∃ M5, M5 = M.write (nmS s1.first) fb := ⟨_, rfl⟩
    have HMD : Hid ((apD M S).write (nmS (apN S)) (frmN n rec) = M5) := by show _ = _; rw [(unhide HDD).1, (unhide HDD).2, hM5, hfbe]
    obtain ⟨E1, hE1⟩ : ∃ E1, E1 = M.writeE (nmS s1.first) fb.length := ⟨_, rfl⟩
    have HAE3 : Hid (apE M S rec = E1) := by show _ = _; rw [unhide HAE2, (unhide HDD).1, (unhide HDD).2, hE1, hfbe]
    have HM5 := hide hM5
    have HE1 := hide hE1
    rw [← hE1, ← hM5] at HWR
    clear hfe hbig HAE1 HAE2 st4 hh4 hd4 hL4 hft hl1 hs4 hmem hSF hE1 hM5 hfl7 ho4 hb4 hfbe HWF
    generalize g4 = g4' at *
    clear g4
    obtain ⟨g4, hg4⟩ : ∃ g4, g4 = g4' := ⟨_, rfl⟩
    rw [← hg4] at HST4 HXT HWR
    clear hg4 g4'
    by_cases he1 : E1 = 0
    · subst he1
      have HAE : Hid ((0 : Int) = apE M S rec) := (unhide HAE3).symm
      clear HAE3
      go_wp2_with fail
      refine (unhide HWR).mono ?_
      rintro e v5 ⟨rfl, HRW⟩
      have HR5 : Hid (RL v4 v5 g4 B D M5 (N + 2) S) := (unhide HRW).monoN (by omega)
      clear HWR HRW
      obtain ⟨g5, P5, pc5, l5, hh5, hd5, st5⟩ := unhide HR5
      obtain ⟨t1, s1', G, ht1, hs1', hP5, sg1, e0, e1, e2, _⟩ := hh5.at (i := n1) (by omega)
      rw [hs1] at hs1'
      obtain rfl := Option.some.inj hs1'
      subst hP5
      have c15 := hh5.c1
      rw [hh5.n, hn1] at c15
      have HLA := hide (last_cons c15 hn16)
      obtain ⟨vs, hvs, hre⟩ := sg1.vs
      have hx5 : Bs v5 x xc rec := (unhide HX4).same9 (fun k hk => st5.block k (unhide HXT k hk).1 (unhide HXT k hk).2)
      have HX5 := hide hx5
      have hvl : vs.length = s1.recs.length := hre.n
      have hvm : vs.length ≤ 1000000 := by rw [hvl]; exact hrm
      have hG5 : G < v5.heap.size := World.block_lt_of_cell? v5 _ e0
      have HT1 : Hid (t1.f = s1.first ∧ t1.v.2.1 = s1.recs.length) := ⟨sg1.f, sg1.n⟩
      have HALL : Hid (LgS v5 g5 B D (some ⟨G, 0, none⟩) pc5 l5 S ∧ DK v5 g5 0 D M5 (N + 2) ∧ St v4 v5 g4 g5 X01 ∧ l5[n1]? = some t1 ∧ OwnS v5 0 t1.v.1 t1.v.2.2 vs ∧ Recs v5 g5 vs s1.recs) := ⟨hh5, hd5, st5, ht1, hvs, hre⟩
      have HGG : Hid (g5 G = .p 1 ∧ ∀ k, blk t1.v.1 = some k → g5 k = tgR s1.first) := ⟨hh5.gP G rfl, sg1.gr⟩
      clear hh5 hd5 st5 hvs hre sg1 ht1 hx5 HR5 c15
      go_wp2_with fail
      refine (unhide HLA).mono ?_
      rintro e v6 ⟨rfl, HB6⟩
      have HCL := hide (bclone_any x rec.length xc rec v6 ((unhide HX5).below (unhide HB6) (Nat.le_refl _)) rfl (by omega))
      clear HLA
      go_wp2_with fail
      refine (unhide HCL).mono ?_
      rintro e v7 ⟨a7, c7, r7, rfl, hr7, ho7, hb7⟩
      obtain rfl : r7 = rec := unhide hr7
      have HB7 : Hid (Below v5.heap.size v5 v7) := (unhide HB6).trans (hb7.mono (unhide HB6).size)
      have hz6 := (unhide HB6).size
      let g7 : Nat → Tg := fun b => if b < v5.heap.size then g5 b else .s 1
      have st7 : St v5 v7 g5 g7 (fun _ => False) := (St.ofBelow g5 _ (unhide HB7)).tag (fun k hk => if_pos hk)
      obtain ⟨hh5, hd5, st5, ht1, hvs, hre⟩ := unhide HALL
      have hh7 := hh5.keep st7 (fun _ _ e => e)
      have hd7 := hd5.keep1 (st7.mono (fun t e => e.elim))
      have hvs7 : OwnS v7 0 t1.v.1 t1.v.2.2 vs := hvs.same9 (fun k hk => st7.block k (hvs.lt k hk).2 (fun e => e))
      have hre7 := hre.st st7 (fun e => e)
      have ho7b := ho7.toBs
      have hot7 : ∀ k, blk a7 = some k → k < v7.heap.size ∧ g7 k = .s 1 := fun k hk => ⟨(ho7.lt k hk).2, if_neg (by have := (ho7.lt k hk).1; omega)⟩
      obtain ⟨cur, hcur⟩ : ∃ cur, v7.heap[G]? = some (.cells cur 102 (0, 0)) := by
        rcases hh7.ow.cases with ⟨e, _⟩ | ⟨b, cur, e, hg, _⟩
        · cases e
        · simp only [Option.some.injEq, Addr.mk.injEq, and_true] at e
          subst e
          exact ⟨cur, hg⟩
      have hne7 : blk t1.v.1 ≠ some G := fun e => by
        have := (unhide HGG).2 G e
        rw [(unhide HGG).1] at this
        cases this
      have q1 : v7.cell? ⟨G, n1 * 3 + 1, none⟩ = some (.slice t1.v.1 vs.length t1.v.2.2) := by rw [(unhide HB7).cell hG5, e1, hvl]
      have q2 : v7.cell? ⟨G, n1 * 3 + 2, none⟩ = some (.int .i64 (s1.size : Int)) := by rw [(unhide HB7).cell hG5, e2]
      have HPU := hide (put5 G (n1 * 3) s1.size fb.length r7.length t1.v.2.2 c7 t1.v.1 a7 vs cur 102 v7 hcur q1 q2 hvs7 hne7 hvm hzm)
      have HA7 : Hid (LgS v7 g7 B D (some ⟨G, 0, none⟩) pc5 l5 S ∧ DK v7 g7 0 D M5 (N + 2) ∧ St v5 v7 g5 g7 X01 ∧ l5[n1]? = some t1 ∧ OwnS v7 0 t1.v.1 t1.v.2.2 vs ∧ Recs v7 g7 vs s1.recs ∧ Bs v7 a7 c7 r7 ∧ ∀ k, blk a7 = some k → k < v7.heap.size ∧ g7 k = .s 1) := ⟨hh7, hd7, st7.mono (fun t e => e.elim), ht1, hvs7, hre7, ho7b, hot7⟩
      clear hh5 hd5 st5 ht1 hvs hre hh7 hd7 hvs7 hre7 ho7b hot7 hcur hne7 q1 q2 st7 ho7 hb7 hr7 HCL HB6 hz6 e0 e1 e2
      generalize g7 = g7' at HA7
      clear g7
      go_wp2_with fail
      refine (unhide HPU).mono ?_
      rintro e v8 ⟨rfl, HPR⟩
      have HF : Hid (RL w v8 g B D M5 (N + 2) SF) := by
        obtain ⟨R, cR, hpr⟩ := unhide HPR
        obtain ⟨h1, h2, h3, h4, h5, h6, h7, h8⟩ := unhide HA7
        obtain ⟨g8, l8, k1, k2⟩ := h1.put hn1 h4 hs1 h5 h6 (unhide HAP) h7 h8 hpr
        rw [unhide HSF]
        exact ⟨g8, _, _, l8, k1, h2.keep1 k2, (((unhide HST4).trans (unhide HALL).2.2.1).trans h3).trans (k2.mono (fun t ht => .inr ht))⟩
      clear HPU HPR HA7 HALL
      go_wp2_with fail
      go_ret2
      exact ⟨n, 0, rfl, unhide HAE, .inl ⟨rfl, rfl, by rw [unhide HMD, unhide HSE]; exact unhide HF⟩⟩

    · have he1' : (E1 != 0) = true := by rw [bne_iff_ne]; exact he1
      have HNE := hide he1
      clear he1
      go_wp2_with fail
      refine (unhide HWR).mono ?_
      rintro e v5 ⟨rfl, HRW⟩
      clear HWR
      go_wp2_with fail
      go_ret2
      have hM : M5 = M := by rw [unhide HM5]; exact write_bad (by rw [← unhide HE1]; exact unhide HNE)
      exact ⟨0, E1, rfl, (unhide HAE3).symm, .inr ⟨unhide HNE, rfl, M5, .inl hM, (RL.from (unhide HST4) (unhide HRW)).monoN (by omega)⟩⟩
  · have hfull : fullS S := fun s hs => by
      apply Classical.byContradiction
      intro hh
      exact hin ⟨s, hs, by omega⟩
    have hsy0 := unhide HSY hfull
    obtain ⟨M1, hM1⟩ : ∃ M1, syM M S = M1 := ⟨_, rfl⟩
    have HWR := hide (write_new w0 g4 B D P pc l S M M1 N n a3 c3 fb v4 (unhide HEE) hL4 hh4 hd4 (unhide HOK) (by omega) hnm ho4.toBs hft hfl hfull hsy0 hM1)
    obtain ⟨n1, hn1e⟩ : ∃ n1, n1 = S.length := ⟨_, rfl⟩
    obtain ⟨s1, hs1e⟩ : ∃ s1 : Sg, s1 = ⟨n, [], 0⟩ := ⟨_, rfl⟩
    obtain ⟨S1, hS1e⟩ : ∃ S1, S1 = S ++ [s1] := ⟨_, rfl⟩
    have hn1 : S1.length = n1 + 1 := by rw [hS1e, hn1e]; simp
    have hs1 : S1[n1]? = some s1 := by rw [hS1e, hn1e]; simp
    have hn16 : n1 ≤ 1000000 := by omega
    have hrm : s1.recs.length ≤ 1000000 := by rw [hs1e]; simp
    have hzm : s1.size + fb.length ≤ 9000000000000000000 := by rw [hs1e]; simp; omega
    have HAP : Hid (∀ i u, i < n1 → S1[i]? = some u → u.first ≠ s1.first) := fun i u hi hu => by
      rw [hS1e, List.getElem?_append_left (by omega)] at hu
      rw [hs1e]
      show u.first ≠ n
      rw [unhide HN0]
      exact Nat.ne_of_lt ((unhide HWF).under hfull hu)
    obtain ⟨SF, hSF⟩ : ∃ SF, SF = S1.take n1 ++ [s1.put rec fb.length] := ⟨_, rfl⟩
    have HSF := hide hSF
    have HSE : Hid (apS S rec = SF) := by
      show _ = _
      rw [hSF, hfbe, hS1e, hn1e, List.take_left, hs1e, unhide HN0]
      unfold apS
      split
      · rename_i s hs
        rw [if_neg (by have := hfull s hs; omega)]
      · rfl
    have HDD : Hid (apD M S = M1 ∧ apN S = n) := by
      refine ⟨?_, ?_⟩
      · unfold apD
        split
        · rename_i s hs
          rw [if_neg (by have := hfull s hs; omega)]
          exact hM1
        · rename_i hs
          rw [← hM1]
          unfold syM
          rw [hs]
      · rw [unhide HN0]
        unfold apN
        split
        · rename_i s hs
          rw [if_neg (by have := hfull s hs; omega)]
        · rfl
    obtain ⟨M5, hM5⟩ : ∃ M5, M5 = M1.write (nmS n) fb := ⟨_, rfl⟩
    have HMD : Hid ((apD M S).write (nmS (apN S)) (frmN n rec) = M5) := by show _ = _; rw [(unhide HDD).1, (unhide HDD).2, hM5, hfbe]
    obtain ⟨E1, hE1⟩ : ∃ E1, E1 = M1.writeE (nmS n) fb.length := ⟨_, rfl⟩
    have HAE3 : Hid (apE M S rec = E1) := by show _ = _; rw [unhide HAE2, (unhide HDD).1, (unhide HDD).2, hE1, hfbe]
    have HM5 := hide hM5
    have HE1 := hide hE1
    rw [← hE1, ← hM5, ← hs1e, ← hS1e] at HWR
    have HWR2 : Hid (Calls Tryz.prog 65 #[.pointer (some ⟨B, 0, none⟩), .int .i64 (n : Int), .slice a3 fb.length c3] v4 fun e w' => e = .returned (.int .i64 E1) ∧ Hid (E1 ≠ 0 → RL v4 w' g4 B D M5 (N + 2) S) ∧ Hid (E1 = 0 → RL v4 w' g4 B D M5 (N + 2) S1)) := (unhide HWR).mono fun e w' h => ⟨h.1, h.2.1, h.2.2⟩
    clear hfe hbig HAE1 HAE2 st4 hh4 hd4 hL4 hft hfull hsy0 hSF hE1 hM5 hfl7 ho4 hb4 hfbe HWF HWR hM1 hin hs1e hS1e hn1e HSY
    generalize g4 = g4' at *
    clear g4
    obtain ⟨g4, hg4⟩ : ∃ g4, g4 = g4' := ⟨_, rfl⟩
    rw [← hg4] at HST4 HXT HWR2
    clear hg4 g4'
    by_cases he1 : E1 = 0
    · subst he1
      have HAE : Hid ((0 : Int) = apE M S rec) := (unhide HAE3).symm
      clear HAE3
      go_wp2_with fail
      refine (unhide HWR2).mono ?_
      rintro e v5 ⟨rfl, _, HRW⟩
      have HR5 : Hid (RL v4 v5 g4 B D M5 (N + 2) S1) := unhide HRW (by trivial)
      clear HWR2 HRW
      obtain ⟨g5, P5, pc5, l5, hh5, hd5, st5⟩ := unhide HR5
      obtain ⟨t1, s1', G, ht1, hs1', hP5, sg1, e0, e1, e2, _⟩ := hh5.at (i := n1) (by omega)
      rw [hs1] at hs1'
      obtain rfl := Option.some.inj hs1'
      subst hP5
      have c15 := hh5.c1
      rw [hh5.n, hn1] at c15
      have HLA := hide (last_cons c15 hn16)
      obtain ⟨vs, hvs, hre⟩ := sg1.vs
      have hx5 : Bs v5 x xc rec := (unhide HX4).same9 (fun k hk => st5.block k (unhide HXT k hk).1 (unhide HXT k hk).2)
      have HX5 := hide hx5
      have hvl : vs.length = s1.recs.length := hre.n
      have hvm : vs.length ≤ 1000000 := by rw [hvl]; exact hrm
      have hG5 : G < v5.heap.size := World.block_lt_of_cell? v5 _ e0
      have HT1 : Hid (t1.f = s1.first ∧ t1.v.2.1 = s1.recs.length) := ⟨sg1.f, sg1.n⟩
      have HALL : Hid (LgS v5 g5 B D (some ⟨G, 0, none⟩) pc5 l5 S1 ∧ DK v5 g5 0 D M5 (N + 2) ∧ St v4 v5 g4 g5 X01 ∧ l5[n1]? = some t1 ∧ OwnS v5 0 t1.v.1 t1.v.2.2 vs ∧ Recs v5 g5 vs s1.recs) := ⟨hh5, hd5, st5, ht1, hvs, hre⟩
      have HGG : Hid (g5 G = .p 1 ∧ ∀ k, blk t1.v.1 = some k → g5 k = tgR s1.first) := ⟨hh5.gP G rfl, sg1.gr⟩
      clear hh5 hd5 st5 hvs hre sg1 ht1 hx5 HR5 c15
      go_wp2_with fail
      refine (unhide HLA).mono ?_
      rintro e v6 ⟨rfl, HB6⟩
      have HCL := hide (bclone_any x rec.length xc rec v6 ((unhide HX5).below (unhide HB6) (Nat.le_refl _)) rfl (by omega))
      clear HLA
      go_wp2_with fail
      refine (unhide HCL).mono ?_
      rintro e v7 ⟨a7, c7, r7, rfl, hr7, ho7, hb7⟩
      obtain rfl : r7 = rec := unhide hr7
      have HB7 : Hid (Below v5.heap.size v5 v7) := (unhide HB6).trans (hb7.mono (unhide HB6).size)
      have hz6 := (unhide HB6).size
      let g7 : Nat → Tg := fun b => if b < v5.heap.size then g5 b else .s 1
      have st7 : St v5 v7 g5 g7 (fun _ => False) := (St.ofBelow g5 _ (unhide HB7)).tag (fun k hk => if_pos hk)
      obtain ⟨hh5, hd5, st5, ht1, hvs, hre⟩ := unhide HALL
      have hh7 := hh5.keep st7 (fun _ _ e => e)
      have hd7 := hd5.keep1 (st7.mono (fun t e => e.elim))
      have hvs7 : OwnS v7 0 t1.v.1 t1.v.2.2 vs := hvs.same9 (fun k hk => st7.block k (hvs.lt k hk).2 (fun e => e))
      have hre7 := hre.st st7 (fun e => e)
      have ho7b := ho7.toBs
      have hot7 : ∀ k, blk a7 = some k → k < v7.heap.size ∧ g7 k = .s 1 := fun k hk => ⟨(ho7.lt k hk).2, if_neg (by have := (ho7.lt k hk).1; omega)⟩
      obtain ⟨cur, hcur⟩ : ∃ cur, v7.heap[G]? = some (.cells cur 102 (0, 0)) := by
        rcases hh7.ow.cases with ⟨e, _⟩ | ⟨b, cur, e, hg, _⟩
        · cases e
        · simp only [Option.some.injEq, Addr.mk.injEq, and_true] at e
          subst e
          exact ⟨cur, hg⟩
      have hne7 : blk t1.v.1 ≠ some G := fun e => by
        have := (unhide HGG).2 G e
        rw [(unhide HGG).1] at this
        cases this
      have q1 : v7.cell? ⟨G, n1 * 3 + 1, none⟩ = some (.slice t1.v.1 vs.length t1.v.2.2) := by rw [(unhide HB7).cell hG5, e1, hvl]
      have q2 : v7.cell? ⟨G, n1 * 3 + 2, none⟩ = some (.int .i64 (s1.size : Int)) := by rw [(unhide HB7).cell hG5, e2]
      have HPU := hide (put5 G (n1 * 3) s1.size fb.length r7.length t1.v.2.2 c7 t1.v.1 a7 vs cur 102 v7 hcur q1 q2 hvs7 hne7 hvm hzm)
      have HA7 : Hid (LgS v7 g7 B D (some ⟨G, 0, none⟩) pc5 l5 S1 ∧ DK v7 g7 0 D M5 (N + 2) ∧ St v5 v7 g5 g7 X01 ∧ l5[n1]? = some t1 ∧ OwnS v7 0 t1.v.1 t1.v.2.2 vs ∧ Recs v7 g7 vs s1.recs ∧ Bs v7 a7 c7 r7 ∧ ∀ k, blk a7 = some k → k < v7.heap.size ∧ g7 k = .s 1) := ⟨hh7, hd7, st7.mono (fun t e => e.elim), ht1, hvs7, hre7, ho7b, hot7⟩
      clear hh5 hd5 st5 ht1 hvs hre hh7 hd7 hvs7 hre7 ho7b hot7 hcur hne7 q1 q2 st7 ho7 hb7 hr7 HCL HB6 hz6 e0 e1 e2
      generalize g7 = g7' at HA7
      clear g7
      go_wp2_with fail
      refine (unhide HPU).mono ?_
      rintro e v8 ⟨rfl, HPR⟩
      have HF : Hid (RL w v8 g B D M5 (N + 2) SF) := by
        obtain ⟨R, cR, hpr⟩ := unhide HPR
        obtain ⟨h1, h2, h3, h4, h5, h6, h7, h8⟩ := unhide HA7
        obtain ⟨g8, l8, k1, k2⟩ := h1.put hn1 h4 hs1 h5 h6 (unhide HAP) h7 h8 hpr
        rw [unhide HSF]
        exact ⟨g8, _, _, l8, k1, h2.keep1 k2, (((unhide HST4).trans (unhide HALL).2.2.1).trans h3).trans (k2.mono (fun t ht => .inr ht))⟩
      clear HPU HPR HA7 HALL
      go_wp2_with fail
      go_ret2
      exact ⟨n, 0, rfl, unhide HAE, .inl ⟨rfl, rfl, by rw [unhide HMD, unhide HSE]; exact unhide HF⟩⟩
    · have he1' : (E1 != 0) = true := by rw [bne_iff_ne]; exact he1
      have HNE := hide he1
      clear he1
      go_wp2_with fail
      refine (unhide HWR2).mono ?_
      rintro e v5 ⟨rfl, HRW, _⟩
      clear HWR2
      go_wp2_with fail
      go_ret2
      have hM : M5 = M1 := by rw [unhide HM5]; exact write_bad (by rw [← unhide HE1]; exact unhide HNE)
      exact ⟨0, E1, rfl, (unhide HAE3).symm, .inr ⟨unhide HNE, rfl, M5, .inr (hM.trans (unhide HDD).1.symm), RL.from (unhide HST4) (unhide HRW (unhide HNE))⟩⟩
#print axioms append5
end Go.Proofs.YtneclcihjbkhlaaGreatDoor
end
section
set_option linter.unusedVariables false
set_option maxRecDepth 1000000
namespace Go.Proofs.YtneclcihjbkhlaaGreatDoor
open Go.RowKit

theorem Tryz.elemG : Tryz.prog.underlying 81 = some (.slice (Tryz.prog.elem 81)) := by kernel_rfl
theorem Tryz.sizeG (w : World) : (sizeOf (Tryz.prog.elem 81)).run Tryz.prog w = .ok 3 w := by kernel_rfl
theorem gb_trans {a b c : World} {row : Option Nat} (h : a.grownBy b row) (k : b.grownBy c row) : a.grownBy c row :=
  ⟨k.os.trans h.os, k.tape.trans h.tape, k.output.trans h.output, Nat.le_trans h.size k.size, fun i hi hn => (k.block i (Nat.lt_of_lt_of_le hi h.size) hn).trans (h.block i hi hn)⟩
theorem setCells_row (b : Nat) (T : TypeId) : ∀ (vs : List Value) (o : Nat) (w : World) (cur : Array Value), w.heap[b]? = some (.cells cur T (0, 0)) → ∃ cur', (w.setCells b o vs).heap[b]? = some (.cells cur' T (0, 0)) ∧ cur'.size = cur.size
  | [], _, w, cur, h => ⟨cur, h, rfl⟩
  | v :: r, o, w, cur, h => by
    obtain ⟨cur', h1, h2⟩ := setCells_row b T r (o + 1) (w.setCell ⟨b, o, none⟩ v) _ (heap_setCell_same w b o cur T v h)
    exact ⟨cur', h1, by rw [h2]; simp⟩
theorem cutG_head (g off N cap i : Nat) (z : Int) (w : World) (hz : z = (i : Int)) (h : i ≤ cap) : (Instr.slice 81 (.slice (some ⟨g, off, none⟩) N cap) none (some (.int .i64 z)) none).run Tryz.prog w = .ok (.slice (some ⟨g, off, none⟩) i cap) w := by
  subst hz
  rw [run_slice_h (P := Tryz.prog) w 81 _ N cap Tryz.elemG .i64 (i : Int) (by omega) (by omega), Tryz.sizeG]
  simp only [Result.andThen, sliced, Int.toNat_natCast, Nat.sub_zero]
  by_cases hc : cap = 0
  · simp [hc]
  · simp [hc, addr_add]
/-- A row of segments off its cells. -/
theorem OwnG.ofCells {w : World} {g cap : Nat} {l : List Gt} {cur : Array Value} (hrow : w.heap[g]? = some (.cells cur 102 (0, 0))) (hs : cur.size = cap * 3) (hle : l.length ≤ cap) (hm : cap ≤ maxLen) (hc : ∀ j u, (gcs l)[j]? = some u → w.cell? ⟨g, j, none⟩ = some u) : OwnG w (some ⟨g, 0, none⟩) cap l := by
  refine ⟨gcs_length l, .inr ⟨g, cap, cur, rfl, Nat.zero_le _, hrow, hle, hm, hs, ?_⟩⟩
  apply List.ext_getElem?
  intro p
  by_cases hp : p < l.length * 3
  · obtain ⟨u, hu⟩ : ∃ u, (gcs l)[p]? = some u := ⟨_, List.getElem?_eq_getElem (by rw [gcs_length]; exact hp)⟩
    rw [List.getElem?_take, if_pos hp, hu, ← hc p u hu, cell_of_row w g p cur _ (0, 0) hrow]
    simp
  · rw [List.getElem?_take, if_neg hp, List.getElem?_eq_none (by rw [gcs_length]; omega)]
theorem Tryz.zeroG (w : World) : (zeroValue 102).run Tryz.prog w = .ok (.agg #[.int .i64 0, .slice none 0 0, .int .i64 0]) w := by kernel_rfl
theorem clearG_one (w : World) (ty : TypeId) (b o c : Nat) (hc : ∀ j, j < 3 → (w.cell? ⟨b, o + j, none⟩).isSome = true) (hf : ∀ j, j < 3 → w.frozen? ⟨b, o + j, none⟩ = false) :
    (Builtin.clear_ #[81] ty #[.slice (some ⟨b, o, none⟩) 1 c]).run Tryz.prog w = .ok (.tuple #[]) (w.setCells b o [.int .i64 0, .slice none 0 0, .int .i64 0]) := by
  have hzc : (Builtin.zeroCells (Value.agg #[.int .i64 0, .slice none 0 0, .int .i64 0]).cells 1).toList = [.int .i64 0, .slice none 0 0, .int .i64 0] := by kernel_rfl
  have hst := run_storeCells_cells (P := Tryz.prog) b o [.int .i64 0, .slice none 0 0, .int .i64 0] 0 w (by simpa using hc) (by simpa using hf) (by intro v hv'; simp at hv'; rcases hv' with rfl | rfl | rfl <;> rfl)
  simp only [Nat.add_zero] at hst
  simp [Builtin.clear_, run_underlying Tryz.underlying81, hzc, hst]
theorem setCells_grown (b : Nat) : ∀ (vs : List Value) (o : Nat) (w : World), w.grownBy (w.setCells b o vs) (some b)
  | [], _, w => ⟨rfl, rfl, rfl, Nat.le_refl _, fun _ _ _ => rfl⟩
  | v :: r, o, w => by
    rw [World.setCells]
    exact gb_trans (grownBy_setCell w ⟨b, o, none⟩ v) (setCells_grown b r (o + 1) _)
theorem cutG_tail (g N cap E : Nat) (h1 : E ≤ N) : ∃ A : Addr, (∀ w, (Instr.slice 81 (.slice (some ⟨g, 0, none⟩) N cap) (some (.int .i64 (E : Int))) none none).run Tryz.prog w = .ok (.slice (some A) (N - E) (cap - E)) w) ∧ (¬ cap = E → A = ⟨g, E * 3, none⟩) := by
  refine ⟨if cap = E then ⟨g, 0, none⟩ else ⟨g, E * 3, none⟩, fun w => ?_, fun h => if_neg h⟩
  rw [run_slice_l (P := Tryz.prog) w 81 _ N cap Tryz.elemG .i64 (E : Int) (by omega) (by omega), Tryz.sizeG]
  simp only [Result.andThen, sliced, Int.toNat_natCast]
  by_cases h : cap = E
  · simp [h]
  · simp [h, addr_add]
theorem cutG_mid (g N cap E H : Nat) (h1 : E ≤ H) (h2 : H ≤ cap) (h3 : ¬ cap = E) (w : World) : (Instr.slice 81 (.slice (some ⟨g, 0, none⟩) N cap) (some (.int .i64 (E : Int))) (some (.int .i64 (H : Int))) none).run Tryz.prog w = .ok (.slice (some ⟨g, E * 3, none⟩) (H - E) (cap - E)) w := by
  rw [run_slice_lh (P := Tryz.prog) w 81 _ N cap Tryz.elemG .i64 .i64 (E : Int) (H : Int) (by omega) (by omega) (by omega), Tryz.sizeG]
  simp only [Result.andThen, sliced, Int.toNat_natCast, if_neg h3, Option.map_some, addr_add, Nat.zero_add]

set_option maxHeartbeats 8000000 in
theorem deleteG_any (g cap : Nat) (l : List Gt) (i : Nat) (w : World) (h : OwnG w (some ⟨g, 0, none⟩) cap l) (hi : i < l.length) (hl : l.length ≤ 1000000) :
    Calls Tryz.prog 100 #[.slice (some ⟨g, 0, none⟩) l.length cap, .int .i64 (i : Int), .int .i64 ((i : Int) + 1)] w fun e w' => e = .returned (.slice (some ⟨g, 0, none⟩) (l.length - 1) cap) ∧ Hid (w.grownBy w' (some g)) ∧ Hid (∀ j u, (gcs (l.eraseIdx i))[j]? = some u → w'.cell? ⟨g, j, none⟩ = some u) ∧ Hid (∃ cur', w'.heap[g]? = some (.cells cur' 102 (0, 0)) ∧ cur'.size = cap * 3) := by
  rcases h.cases with ⟨h1, _⟩ | ⟨g', cur, e, hg, hle, hm, hs, ht⟩
  · cases h1
  obtain rfl : g = g' := by simpa using e
  unfold maxLen at hm
  obtain ⟨N, hN⟩ : ∃ N, l.length = N + 1 := ⟨l.length - 1, by omega⟩
  have hcell : ∀ j, j < l.length * 3 → w.cell? ⟨g, j, none⟩ = (gcs l)[j]? := by
    intro j hj
    rw [cell_of_row w g j cur _ (0, 0) hg, ← ht, List.getElem?_take, if_pos hj]
    simp
  have hfz : ∀ j, w.frozen? ⟨g, j, none⟩ = false := fun j => frozen_of_row w g j _ _ hg
  have hsl : (gcs l).length = l.length * 3 := gcs_length l
  obtain ⟨news, hnews⟩ : ∃ news, news = gcs (l.drop (i + 1)) := ⟨_, rfl⟩
  have hnl : news.length = (N - i) * 3 := by rw [hnews, gcs_length, List.length_drop]; omega
  have hng : ∀ j, j < news.length → news[j]? = (gcs l)[(i + 1) * 3 + j]? := by
    intro j hj
    have e : gcs l = gcs (l.take (i + 1)) ++ news := by rw [hnews, ← gcs_append, List.take_append_drop]
    rw [e, List.getElem?_append_right (by rw [gcs_length, List.length_take]; omega)]
    congr 1
    rw [gcs_length, List.length_take]
    omega
  obtain ⟨A, hA, hA2⟩ := cutG_tail g (N + 1) cap (i + 1) (by omega)
  have HSRC : Hid (∀ j u, news[j]? = some u → w.drew.cell? (A.add j) = some u) := by
    intro j u hu
    have hj := (List.getElem?_eq_some_iff.1 hu).1
    rw [hA2 (by omega), addr_add]
    show w.cell? _ = _
    rw [hcell _ (by omega), ← hng j hj]
    exact hu
  have HONE : Hid (∀ u ∈ news, u.oneCell' = true) := by rw [hnews]; exact gcs_one _
  have HSP : Hid (∀ j, j < news.length → (w.drew.cell? ⟨g, 0 + i * 3 + j, none⟩).isSome = true ∧ w.drew.frozen? ⟨g, 0 + i * 3 + j, none⟩ = false) := by
    intro j hj
    refine ⟨?_, hfz _⟩
    show (w.cell? _).isSome = true
    rw [hcell _ (by omega), List.getElem?_eq_getElem (by omega)]
    rfl
  obtain ⟨W1, hW1⟩ : ∃ W1, w.drew.setCells g (0 + i * 3) news = W1 := ⟨_, rfl⟩
  have hW1in : ∀ j, j < news.length → W1.cell? ⟨g, 0 + i * 3 + j, none⟩ = news[j]? := by
    intro j hj
    rw [← hW1, World.cell?_setCells_in g news (0 + i * 3) w.drew (fun q hq => (HSP.out q hq).1) j hj, List.getElem?_eq_getElem hj]
  have hW1out : ∀ j, (j < i * 3 ∨ i * 3 + news.length ≤ j) → W1.cell? ⟨g, j, none⟩ = w.cell? ⟨g, j, none⟩ := by
    intro j hj
    rw [← hW1, World.cell?_setCells_out g news (0 + i * 3) w.drew _ (fun _ _ => by simp only; omega)]
    rfl
  have hW1f : ∀ j, W1.frozen? ⟨g, j, none⟩ = false := by
    intro j
    rw [← hW1, World.frozen?_setCells]
    exact hfz j
  have HG1 : Hid (w.grownBy W1 (some g)) := by
    rw [← hW1]
    exact gb_trans (b := w.drew) ⟨rfl, rfl, rfl, Nat.le_refl _, fun _ _ _ => rfl⟩ (setCells_grown g news _ _)
  have hcl : ∀ ty, (Builtin.clear_ #[81] ty #[.slice (some ⟨g, N * 3, none⟩) 1 (cap - N)]).run Tryz.prog W1 = .ok (.tuple #[]) (W1.setCells g (N * 3) [.int .i64 0, .slice none 0 0, .int .i64 0]) := fun ty => clearG_one W1 ty g (N * 3) (cap - N) (fun j hj => by
    rw [hW1out _ (.inr (by omega)), hcell _ (by omega), List.getElem?_eq_getElem (by omega)]
    rfl) (fun j hj => hW1f _)
  have HFIN : Hid (∀ j u, (gcs (l.eraseIdx i))[j]? = some u → (W1.setCells g (N * 3) [.int .i64 0, .slice none 0 0, .int .i64 0]).cell? ⟨g, j, none⟩ = some u) := by
    intro j u hu
    have hj : j < N * 3 := by
      have := (List.getElem?_eq_some_iff.1 hu).1
      rw [gcs_length, List.length_eraseIdx_of_lt hi] at this
      omega
    rw [World.cell?_setCells_out g _ (N * 3) W1 _ (fun _ _ => .inl hj)]
    rw [List.eraseIdx_eq_take_drop_succ, gcs_append, ← hnews] at hu
    have htl : (gcs (l.take i)).length = i * 3 := by rw [gcs_length, List.length_take]; omega
    rcases Nat.lt_or_ge j (i * 3) with h | h
    · rw [hW1out j (.inl h), hcell j (by omega)]
      rw [List.getElem?_append_left (by omega)] at hu
      have e : gcs l = gcs (l.take i) ++ gcs (l.drop i) := by rw [← gcs_append, List.take_append_drop]
      rw [e, List.getElem?_append_left (by omega)]
      exact hu
    · rw [List.getElem?_append_right (by omega), htl] at hu
      have := hW1in (j - i * 3) (by omega)
      rw [show 0 + i * 3 + (j - i * 3) = j by omega] at this
      rw [this]
      exact hu
  have HG2 : Hid (w.grownBy (W1.setCells g (N * 3) [.int .i64 0, .slice none 0 0, .int .i64 0]) (some g)) := gb_trans HG1.out (setCells_grown g _ _ _)
  have HROW : Hid (∃ cur', (W1.setCells g (N * 3) [.int .i64 0, .slice none 0 0, .int .i64 0]).heap[g]? = some (.cells cur' 102 (0, 0)) ∧ cur'.size = cap * 3) := by
    obtain ⟨c1, h1, h2⟩ := setCells_row g 102 news (0 + i * 3) w.drew cur hg
    rw [hW1] at h1
    obtain ⟨c2, h3, h4⟩ := setCells_row g 102 [.int .i64 0, .slice none 0 0, .int .i64 0] (N * 3) W1 c1 h1
    exact ⟨c2, h3, by rw [h4, h2, hs]⟩
  have HW := hide hW1
  have HNL := hide hnl
  have q0 := fun wx => cutG_head g 0 (N + 1) cap i (i : Int) wx rfl (by omega)
  have q1 : ∀ wx, (Instr.slice 81 (.slice (some ⟨g, 0, none⟩) (N + 1) cap) (some (.int .i64 ((i : Int) + 1))) none none).run Tryz.prog wx = .ok (.slice (some A) (N - i) (cap - (i + 1))) wx := by
    intro wx
    have := hA wx
    rw [show ((i + 1 : Nat) : Int) = (i : Int) + 1 by simp, show N + 1 - (i + 1) = N - i by omega] at this
    exact this
  have q2 : ∀ wx, (Instr.slice 81 (.slice (some ⟨g, 0, none⟩) N cap) (some (.int .i64 (N : Int))) (some (.int .i64 ((N : Int) + 1))) none).run Tryz.prog wx = .ok (.slice (some ⟨g, N * 3, none⟩) 1 (cap - N)) wx := by
    intro wx
    have := cutG_mid g N cap N (N + 1) (by omega) (by omega) (by omega) wx
    rw [show ((N + 1 : Nat) : Int) = (N : Int) + 1 by simp, show N + 1 - N = 1 by omega] at this
    exact this
  rw [hN] at hle ⊢
  have hNc : N + 1 ≤ cap := hle
  clear hcell hfz hsl hnews hng hA hA2 hW1in hW1out hW1f hW1 HG1 h e hg hs ht hnl
  have hne : ((i : Int) == (i : Int) + 1) = false := by simp; omega
  have hiN : i ≤ N := by omega
  have r1 : (i : Int) + 1 ≤ ((N + 1 : Nat) : Int) := by omega
  have r2 : ((N + 1 : Nat) : Int) ≤ (cap : Int) := by omega
  have r3 : (i : Int) + 1 ≤ (N : Int) + 1 := by omega
  have r4 : (N : Int) + 1 ≤ (cap : Int) := by omega
  obtain ⟨i0, hi0, hz0, hz1, hz2⟩ := info_parts Tryz.infoG
  have HI0 := hide (And.intro hi0 hz1)
  clear hi0 hz0 hz1 hz2 hi hl hN
  go_enter Tryz.func100, Tryz.ntmps100
  go_wp2
  go_region_law (refine step_append_room rfl _ _ _ rfl 102 i0 3 Tryz.underlying81 HI0.out.1 HI0.out.2 g 0 i cap rfl A (N - i) (cap - (i + 1)) news rfl HNL.out HSRC.out HONE.out (by omega) HSP.out ?_; rw [HW.out])
  all_goals
    go_wp2
    go_ret
    exact ⟨by simp, HG2, HFIN, HROW⟩
#print axioms deleteG_any
end Go.Proofs.YtneclcihjbkhlaaGreatDoor
end
section
set_option linter.unusedVariables false
set_option maxRecDepth 1000000
namespace Go.Proofs.YtneclcihjbkhlaaGreatDoor
open Go.RowKit Go.Maps

/-- A log without its first segment. -/
theorem LgS.tl {w w' : World} {g : Nat → Tg} {B D G pc : Nat} {l : List Gt} {S : List Sg} (h : LgS w g B D (some ⟨G, 0, none⟩) pc l S) (hg : w.grownBy w' (some G)) (ho : OwnG w' (some ⟨G, 0, none⟩) pc (l.drop 1)) :
    LgS (w'.setCell ⟨B, 1, none⟩ (.slice (some ⟨G, 0, none⟩) (l.length - 1) pc)) g B D (some ⟨G, 0, none⟩) pc (l.drop 1) (S.drop 1) ∧ St w (w'.setCell ⟨B, 1, none⟩ (.slice (some ⟨G, 0, none⟩) (l.length - 1) pc)) g g (fun t => t.of 1) := by
  have hGt : g G = .p 1 := h.gP G rfl
  have hGB : G ≠ B := fun e => by have := h.gB; rw [← e, hGt] at this; cases this
  have hk : ∀ j, j ≠ B → (w'.setCell ⟨B, 1, none⟩ (.slice (some ⟨G, 0, none⟩) (l.length - 1) pc)).heap[j]? = w'.heap[j]? := fun j hj => Below.heap_setCell _ ⟨B, 1, none⟩ _ j hj
  have hw' : ∀ j, j < w.heap.size → j ≠ G → w'.heap[j]? = w.heap[j]? := fun j hj hn => hg.block j hj (fun e => hn (Option.some.inj e))
  have hst : St w (w'.setCell ⟨B, 1, none⟩ (.slice (some ⟨G, 0, none⟩) (l.length - 1) pc)) g g (fun t => t.of 1) := ⟨hg.os, hg.tape, hg.output, by simpa [World.setCell] using hg.size, fun j hj hn => (hk j (fun e => hn (by rw [e, h.gB]; rfl))).trans (hw' j hj (fun e => hn (by rw [e, hGt]; rfl))), fun j hj => rfl⟩
  have hsame : ∀ j, j < w.heap.size → g j ≠ .p 1 → g j ≠ .d 1 → (w'.setCell ⟨B, 1, none⟩ (.slice (some ⟨G, 0, none⟩) (l.length - 1) pc)).heap[j]? = w.heap[j]? := fun j hj h1 h2 => (hk j (fun e => h2 (by rw [e]; exact h.gB))).trans (hw' j hj (fun e => h1 (by rw [e]; exact hGt)))
  refine ⟨⟨?_, h.gB, h.gP, ho.same (fun j hj => hk j (by simp [blk] at hj; omega)), by simp [h.n], fun i t s ht hs => ?_⟩, hst⟩
  · rw [heap_setCell_same _ _ _ _ _ _ ((hw' B h.lt (Ne.symm hGB)).trans h.st), List.length_drop]; rfl
  · rw [List.getElem?_drop] at ht hs
    have sg := h.sg (1 + i) t s ht hs
    obtain ⟨vs, a1, a2⟩ := sg.vs
    refine ⟨sg.f, sg.z, sg.n, ⟨vs, a1.same9 (fun j hj => hsame j (a1.lt j hj).2 (by rw [sg.gr j hj]; intro e; cases e) (by rw [sg.gr j hj]; intro e; cases e)), ⟨a2.n, fun j y q h1 h2 => ?_⟩⟩, sg.gr⟩
    obtain ⟨b1, b2, b3⟩ := a2.at' j y q h1 h2
    exact ⟨b1, b2.same9 (fun k hk2 => hsame k (b3 k hk2).1 (by rw [(b3 k hk2).2]; intro e; cases e) (by rw [(b3 k hk2).2]; intro e; cases e)), fun k hk2 => ⟨Nat.lt_of_lt_of_le (b3 k hk2).1 hst.size, (b3 k hk2).2⟩⟩
theorem delete0 (G cap : Nat) (l : List Gt) (w : World) (h : OwnG w (some ⟨G, 0, none⟩) cap l) (hi : 0 < l.length) (hl : l.length ≤ 1000000) :
    Calls Tryz.prog 100 #[.slice (some ⟨G, 0, none⟩) l.length cap, .int .i64 0, .int .i64 1] w fun e w' => e = .returned (.slice (some ⟨G, 0, none⟩) (l.length - 1) cap) ∧ Hid (w.grownBy w' (some G)) ∧ Hid (OwnG w' (some ⟨G, 0, none⟩) cap (l.drop 1)) := by
  refine (deleteG_any G cap l 0 w h hi hl).mono ?_
  rintro e w' ⟨rfl, h1, h2, h3⟩
  refine ⟨rfl, h1, ?_⟩
  obtain ⟨cur, h4, h5⟩ := unhide h3
  have e : l.eraseIdx 0 = l.drop 1 := by cases l <;> rfl
  rw [e] at h2
  exact OwnG.ofCells h4 h5 (by have := h.le.1; simp; omega) h.le.2 (unhide h2)
set_option maxHeartbeats 4000000 in
theorem dropF5 (w0 : World) (g : Nat → Tg) (B D : Nat) (P : Option Addr) (pc : Nat) (l : List Gt) (S : List Sg) (s : Sg) (M : Md) (N : Nat) (w : World) (hE : EnvS w0) (hL : LW w0 w g) (h : LgS w g B D P pc l S) (hd : DK w g 0 D M N) (hlen : S.length ≤ 1000000) (hN : N ≤ 1400) (hs : S[0]? = some s) (hf : s.first ≤ 9223372036854775807) (hth : M.thereE (nmS s.first) = 0) :
    Calls Tryz.prog 53 #[.pointer (some ⟨B, 0, none⟩)] w fun e w' => e = .returned (.int .i64 0) ∧ Hid (RL w w' g B D (M.drop (nmS s.first)) (N + 1) (S.drop 1)) := by
  have c0 := h.c0
  have c1 := h.c1
  have hSp : 0 < S.length := (List.getElem?_eq_some_iff.1 hs).1
  obtain ⟨t, s2, G, _, hs2, rfl, _, d0, _, _, _⟩ := h.at hSp
  rw [hs] at hs2
  obtain rfl := Option.some.inj hs2
  have d0' : w.cell? ⟨G, 0, none⟩ = some (.int .i64 (s.first : Int)) := by simpa using d0
  obtain ⟨m, hm⟩ : ∃ m, m = l.length := ⟨_, rfl⟩
  rw [← hm] at c1
  have hmp : 0 < m := by rw [hm, h.n]; exact hSp
  have hmp' : (0 : Int) < (m : Int) := by omega
  have hm6 : l.length ≤ 1000000 := by rw [h.n]; exact hlen
  have HBL : Hid (B < w.heap.size) := h.lt
  have HGL : Hid (G < w.heap.size) := World.block_lt_of_cell? w _ d0
  have HTG : Hid ((g B).of 1 ∧ (g G).of 1) := ⟨by rw [h.gB]; rfl, by rw [h.gP G rfl]; rfl⟩
  have HH := hide h
  have HM := hide hm
  have HNO : Hid (∀ v, Below w.heap.size w v → Calls Tryz.prog 50 #[.int .i64 (s.first : Int)] v fun e v' => e = .returned (.string (str (nmS s.first))) ∧ Hid (Below v.heap.size v v')) := fun v hb => nameOf_any s.first v hf (hE.below (hL.below.trans (hb.mono hL.below.size)) (Nat.le_refl _))
  have HDR : Hid (∀ v, Below w.heap.size w v → Calls Tryz.prog 99 #[.pointer (some ⟨D, 0, none⟩), .string (str (nmS s.first))] v fun e v' => e = .returned (.int .i64 0) ∧ Hid (RK v v' g 0 D (M.drop (nmS s.first)) (N + 1))) := fun v hb => by
    have := drop_k g 0 D M N (nmS s.first) v (hd.below hb) hN (nm_max _ hf)
    rw [hth] at this
    exact this
  clear h hd hs hSp hE hL hth d0 hm
  have d0 := d0'
  clear d0'
  go_enter Tryz.func53, Tryz.ntmps53
  go_upto_region 1 with fail
  refine wp_region_held_drew (S := fun w' => w'.cell? ⟨B, 0, none⟩ = some (.pointer (some ⟨D, 0, none⟩)) ∧ w'.cell? ⟨B, 1, none⟩ = some (.slice (some ⟨G, 0, none⟩) m pc) ∧ w'.cell? ⟨G, 0, none⟩ = some (.int .i64 (s.first : Int))) (by kernel_rfl) (And.intro c0 (And.intro c1 d0)) (fun hHeld => ?_)
  refine wpAnyH_take (i := 0) (oi := ?_) (v := ?_) ?_ (by kernel_rfl) ?_ ?_ ?_ ?_ hHeld ?_
  rotate_left 2
  · (simp only [List.getElem?_toArray, List.getElem?_cons_zero]) <;> with_reducible rfl
  · kernel_rfl
  · kernel_rfl
  · exact fun _ _ _ h => h
  · exact Or.inl ⟨by rfl, by (intro w hSw; (try dsimp only at hSw); go_simp <;> with_reducible rfl)⟩
  simp only [Act.put, List.setIfInBounds_toArray, List.set_cons_zero, List.set_cons_succ]
  refine wpAnyH_take (i := 1) (oi := ?_) (v := ?_) ?_ (by kernel_rfl) ?_ ?_ ?_ ?_ hHeld ?_
  rotate_left 2
  · (simp only [List.getElem?_toArray, List.getElem?_cons_succ, List.getElem?_cons_zero]) <;> with_reducible rfl
  · kernel_rfl
  · kernel_rfl
  · exact fun _ _ _ h => h
  · exact Or.inl ⟨by rfl, by (intro w hSw; (try dsimp only at hSw); go_simp <;> with_reducible rfl)⟩
  simp only [Act.put, List.setIfInBounds_toArray, List.set_cons_zero, List.set_cons_succ]
  refine wpAnyH_take (i := 2) (oi := ?_) (v := ?_) ?_ (by kernel_rfl) ?_ ?_ ?_ ?_ hHeld ?_
  rotate_left 2
  · (simp only [List.getElem?_toArray, List.getElem?_cons_succ, List.getElem?_cons_zero]) <;> with_reducible rfl
  · kernel_rfl
  · kernel_rfl
  · exact fun _ _ _ h => h
  · exact Or.inl ⟨by rfl, by (intro w hSw; (try dsimp only at hSw); go_simp <;> with_reducible rfl)⟩
  simp only [Act.put, List.setIfInBounds_toArray, List.set_cons_zero, List.set_cons_succ]
  refine wpAnyH_take (i := 3) (oi := ?_) (v := ?_) ?_ (by kernel_rfl) ?_ ?_ ?_ ?_ hHeld ?_
  rotate_left 2
  · (simp only [List.getElem?_toArray, List.getElem?_cons_succ, List.getElem?_cons_zero]) <;> with_reducible rfl
  · kernel_rfl
  · kernel_rfl
  · exact fun _ _ _ h => h
  · exact Or.inl ⟨by rfl, by (intro w hSw; (try dsimp only at hSw); go_simp <;> with_reducible rfl)⟩
  simp only [Act.put, List.setIfInBounds_toArray, List.set_cons_zero, List.set_cons_succ]
  refine wpAnyH_take (i := 4) (oi := ?_) (v := ?_) ?_ (by kernel_rfl) ?_ ?_ ?_ ?_ hHeld ?_
  rotate_left 2
  · (simp only [List.getElem?_toArray, List.getElem?_cons_succ, List.getElem?_cons_zero]) <;> with_reducible rfl
  · kernel_rfl
  · kernel_rfl
  · exact fun _ _ _ h => h
  · exact Or.inl ⟨by rfl, by (intro w hSw; (try dsimp only at hSw); go_simp <;> with_reducible rfl)⟩
  simp only [Act.put, List.setIfInBounds_toArray, List.set_cons_zero, List.set_cons_succ]
  refine wpAnyH_take (i := 5) (oi := ?_) (v := ?_) ?_ (by kernel_rfl) ?_ ?_ ?_ ?_ hHeld ?_
  rotate_left 2
  · (simp only [List.getElem?_toArray, List.getElem?_cons_succ, List.getElem?_cons_zero]) <;> with_reducible rfl
  · kernel_rfl
  · kernel_rfl
  · exact fun _ _ _ h => h
  · exact Or.inl ⟨by rfl, by (intro w hSw; (try dsimp only at hSw); go_simp <;> with_reducible rfl)⟩
  simp only [Act.put, List.setIfInBounds_toArray, List.set_cons_zero, List.set_cons_succ]
  refine wpAnyH_take (i := 6) (oi := ?_) (v := ?_) ?_ (by kernel_rfl) ?_ ?_ ?_ ?_ hHeld ?_
  rotate_left 2
  · (simp only [List.getElem?_toArray, List.getElem?_cons_succ, List.getElem?_cons_zero]) <;> with_reducible rfl
  · kernel_rfl
  · kernel_rfl
  · exact fun _ _ _ h => h
  · exact Or.inl ⟨by rfl, by (intro w hSw; (try dsimp only at hSw); go_simp <;> with_reducible rfl)⟩
  simp only [Act.put, List.setIfInBounds_toArray, List.set_cons_zero, List.set_cons_succ]
  refine wpAnyH_take (i := 7) (oi := ?_) (v := ?_) ?_ (by kernel_rfl) ?_ ?_ ?_ ?_ hHeld ?_
  rotate_left 2
  · (simp only [List.getElem?_toArray, List.getElem?_cons_succ, List.getElem?_cons_zero]) <;> with_reducible rfl
  · kernel_rfl
  · kernel_rfl
  · exact fun _ _ _ h => h
  · exact Or.inl ⟨by rfl, by (intro w hSw; (try dsimp only at hSw); go_simp <;> with_reducible rfl)⟩
  simp only [Act.put, List.setIfInBounds_toArray, List.set_cons_zero, List.set_cons_succ]
  refine wpAnyH_take (i := 8) (oi := ?_) (v := ?_) ?_ (by kernel_rfl) ?_ ?_ ?_ ?_ hHeld ?_
  rotate_left 2
  · (simp only [List.getElem?_toArray, List.getElem?_cons_succ, List.getElem?_cons_zero]) <;> with_reducible rfl
  · kernel_rfl
  · kernel_rfl
  · exact fun _ _ _ h => h
  · exact Or.inl ⟨by rfl, by (intro w hSw; (try dsimp only at hSw); go_simp <;> with_reducible rfl)⟩
  simp only [Act.put, List.setIfInBounds_toArray, List.set_cons_zero, List.set_cons_succ]
  refine wpAnyH_take (i := 9) (oi := ?_) (v := ?_) ?_ (by kernel_rfl) ?_ ?_ ?_ ?_ hHeld ?_
  rotate_left 2
  · (simp only [List.getElem?_toArray, List.getElem?_cons_succ, List.getElem?_cons_zero]) <;> with_reducible rfl
  · kernel_rfl
  · kernel_rfl
  · exact fun _ _ _ h => h
  · exact Or.inl ⟨by rfl, by (intro w hSw; (try dsimp only at hSw); go_simp <;> with_reducible rfl)⟩
  simp only [Act.put, List.setIfInBounds_toArray, List.set_cons_zero, List.set_cons_succ]
  refine wpAnyH_take (i := 10) (oi := ?_) (v := ?_) ?_ (by kernel_rfl) ?_ ?_ ?_ ?_ hHeld ?_
  rotate_left 2
  · (simp only [List.getElem?_toArray, List.getElem?_cons_succ, List.getElem?_cons_zero]) <;> with_reducible rfl
  · kernel_rfl
  · kernel_rfl
  · exact fun _ _ _ h => h
  · exact Or.inl ⟨by rfl, by (intro w hSw; (try dsimp only at hSw); go_simp <;> with_reducible rfl)⟩
  simp only [Act.put, List.setIfInBounds_toArray, List.set_cons_zero, List.set_cons_succ]
  refine wpAnyH_ready (rs := [11]) (by kernel_rfl) (by simp) (AllReadyH.cons (o := ?_) ?_ (fun K hK => ?_) AllReadyH.nil)
  rotate_left 1
  · (simp only [List.getElem?_toArray, List.getElem?_cons_succ, List.getElem?_cons_zero]) <;> with_reducible rfl
  go_simp
  refine (unhide HNO _ (Below.refl _ _).drew).mono ?_
  rintro e x1 ⟨rfl, HBx1'⟩
  have HBx1 : Hid (Below w.heap.size w x1) := ((Below.refl w.heap.size w).drew).trans ((unhide HBx1').mono (Nat.le_refl _))
  have k0 : x1.cell? ⟨B, 0, none⟩ = some (.pointer (some ⟨D, 0, none⟩)) := by rw [(unhide HBx1).cell (unhide HBL)]; exact c0
  have k1 : x1.cell? ⟨B, 1, none⟩ = some (.slice (some ⟨G, 0, none⟩) m pc) := by rw [(unhide HBx1).cell (unhide HBL)]; exact c1
  have k2 : x1.cell? ⟨G, 0, none⟩ = some (.int .i64 (s.first : Int)) := by rw [(unhide HBx1).cell (unhide HGL)]; exact d0
  clear HBx1' hHeld
  refine hK.out _ _ (And.intro k0 (And.intro k1 k2)) (fun hHeld => ?_)
  clear hK K
  try simp only [Act.put, List.setIfInBounds_toArray, List.set_cons_zero, List.set_cons_succ]
  refine wpAnyH_ready (rs := [12]) (by kernel_rfl) (by simp) (AllReadyH.cons (o := ?_) ?_ (fun K hK => ?_) AllReadyH.nil)
  rotate_left 1
  · (simp only [List.getElem?_toArray, List.getElem?_cons_succ, List.getElem?_cons_zero]) <;> with_reducible rfl
  go_simp
  refine (unhide HDR _ (unhide HBx1)).mono ?_
  rintro e x2 ⟨rfl, HRK⟩
  have q0 : x2.cell? ⟨B, 0, none⟩ = some (.pointer (some ⟨D, 0, none⟩)) := (unhide HRK).cells k0 (unhide HTG).1
  have q1 : x2.cell? ⟨B, 1, none⟩ = some (.slice (some ⟨G, 0, none⟩) m pc) := (unhide HRK).cells k1 (unhide HTG).1
  have q2 : x2.cell? ⟨G, 0, none⟩ = some (.int .i64 (s.first : Int)) := (unhide HRK).cells k2 (unhide HTG).2
  clear hHeld
  refine hK.out _ _ (And.intro q0 (And.intro q1 q2)) (fun hHeld => ?_)
  clear hK K
  try simp only [Act.put, List.setIfInBounds_toArray, List.set_cons_zero, List.set_cons_succ]
  refine wpAnyH_take (i := 13) (oi := ?_) (v := ?_) ?_ (by kernel_rfl) ?_ ?_ ?_ ?_ hHeld ?_
  rotate_left 2
  · (simp only [List.getElem?_toArray, List.getElem?_cons_succ, List.getElem?_cons_zero]) <;> with_reducible rfl
  · kernel_rfl
  · kernel_rfl
  · exact fun _ _ _ h => h
  · exact Or.inl ⟨by rfl, by (intro w hSw; (try dsimp only at hSw); go_simp <;> with_reducible rfl)⟩
  simp only [Act.put, List.setIfInBounds_toArray, List.set_cons_zero, List.set_cons_succ]
  refine wpAnyH_done (by kernel_rfl) ?_ _

  clear HNO HDR hHeld
  obtain ⟨g2, hd2, st2⟩ := unhide HRK
  have hh2 := ((unhide HH).below (unhide HBx1)).keep st2 (fun t h1 h0 => tg01 h1 h0)
  have HH2 := hide hh2
  have HD2 := hide hd2
  have HS2 := hide st2
  have HDE := hide (delete0 G pc l x2 hh2.ow (by rw [← unhide HM]; exact hmp) hm6)
  rw [← unhide HM] at HDE
  clear hh2 hd2 st2 HRK k0 k1 k2
  go_wp2_with fail
  refine (unhide HDE).mono ?_
  rintro e x3 ⟨rfl, HG3, HO3⟩
  have hB3 : x3.heap[B]? = x2.heap[B]? := (unhide HG3).block B (unhide HH2).lt (fun e => by
    have := (unhide HH2).gB
    rw [Option.some.inj e, (unhide HH2).gP G rfl] at this
    cases this)
  have z1 : x3.cell? ⟨B, 1, none⟩ = some (.slice (some ⟨G, 0, none⟩) m pc) := by rw [World.cell?_of_block (w := x2) hB3]; exact q1
  have zf : x3.frozen? ⟨B, 1, none⟩ = false := frozen_of_row _ _ _ _ _ (hB3.trans (unhide HH2).st)
  clear hB3 HDE
  go_wp2_with fail
  go_ret
  obtain ⟨y1, y2⟩ := (unhide HH2).tl (unhide HG3) (unhide HO3)
  rw [← unhide HM] at y1 y2
  exact ⟨rfl, g2, _, _, _, y1, (unhide HD2).keep1 y2, ((St.ofBelow g X01 (unhide HBx1)).trans ((unhide HS2).mono (fun t ht => .inl ht))).trans (y2.mono (fun t ht => .inr ht))⟩
#print axioms dropF5
end Go.Proofs.YtneclcihjbkhlaaGreatDoor
end
section
set_option linter.unusedVariables false
set_option maxRecDepth 1000000
namespace Go.Proofs.YtneclcihjbkhlaaGreatDoor
open Go.RowKit Go.Maps

/-- How many segments Trim takes away. -/
def trK : List Sg → Int → Nat
  | _ :: t :: r, z => if (t.first : Int) ≤ z then trK (t :: r) z + 1 else 0
  | _, _ => 0
def drM (M : Md) (S : List Sg) (k : Nat) : Md := (S.take k).foldl (fun M s => M.drop (nmS s.first)) M
theorem drM_succ (M : Md) (S : List Sg) (k : Nat) (s : Sg) (h : S[k]? = some s) : drM M S (k + 1) = (drM M S k).drop (nmS s.first) := by
  unfold drM
  rw [List.take_add_one, h, List.foldl_append]
  rfl
theorem perform_seen (M : Md) (a : Ac) : (M.perform a).seen = doF M.seen a := rfl
theorem drop_seen (M : Md) (n m : Nm) (h : m ≠ n) : (M.drop n).seen m = M.seen m := by
  unfold Md.drop
  split
  · rw [perform_seen]
    show doF M.seen ⟨2, n, 0, []⟩ m = _
    unfold doF
    rw [if_neg (by show ¬ (2 : Nat) = 0; omega), if_neg (by show ¬ (2 : Nat) = 1; omega), upd_other _ _ _ _ h]
  · rfl
theorem drM_seen (M : Md) (S : List Sg) (m : Nm) : ∀ k, (∀ i s, i < k → S[i]? = some s → m ≠ nmS s.first) → (drM M S k).seen m = M.seen m
  | 0, _ => rfl
  | k + 1, h => by
    cases hk : S[k]? with
    | none =>
      have : drM M S (k + 1) = drM M S k := by unfold drM; rw [List.take_add_one, hk]; simp
      rw [this]
      exact drM_seen M S m k (fun i s hi hs => h i s (by omega) hs)
    | some s =>
      rw [drM_succ M S k s hk, drop_seen _ _ _ (h k s (by omega) hk)]
      exact drM_seen M S m k (fun i s hi hs => h i s (by omega) hs)
/-- All segments' files are there. -/
def There (M : Md) (S : List Sg) : Prop := ∀ s ∈ S, (M.seen (nmS s.first)).isSome = true ∧ s.first ≤ 9223372036854775807
theorem There.zero {M : Md} {S : List Sg} (h : There M S) {s : Sg} (hs : s ∈ S) : M.thereE (nmS s.first) = 0 := by
  obtain ⟨h1, h2⟩ := h s hs
  unfold Md.thereE
  rw [if_pos (nmS_name _ h2), if_pos h1]
theorem There.dropped {M : Md} {S : List Sg} (h : There M S) (wf : Wf S) (k : Nat) {s : Sg} (hs : S[k]? = some s) : (drM M S k).thereE (nmS s.first) = 0 := by
  obtain ⟨h1, h2⟩ := h s (List.mem_of_getElem? hs)
  unfold Md.thereE
  rw [if_pos (nmS_name _ h2), drM_seen M S _ k (fun i u hi hu e => ?_), if_pos h1]
  exact wf.apart hs i u hi hu (nmS_inj (h u (List.mem_of_getElem? hu)).2 h2 e.symm)
/-- What Trim leaves. -/
def trM (M : Md) (S : List Sg) (z : Int) : Md := if trK S z = 0 then M else (drM M S (trK S z)).flush
set_option maxHeartbeats 4000000 in
theorem trim5 (w0 : World) (g : Nat → Tg) (B D : Nat) (P : Option Addr) (pc : Nat) (l : List Gt) (S : List Sg) (M : Md) (N : Nat) (z : Int) (w : World) (hE : EnvS w0) (hL : LW w0 w g) (h : LgS w g B D P pc l S) (hd : DK w g 0 D M N) (hlen : S.length ≤ 1000000) (hN : N + S.length ≤ 1300) (wf : Wf S) (hth : There M S) :
    Calls Tryz.prog 17 #[.pointer (some ⟨B, 0, none⟩), .int .i64 z] w fun e w' => e = .returned (.int .i64 0) ∧ Hid (RL w w' g B D (trM M S z) (N + trK S z + 1) (S.drop (trK S z))) := by
  have c0 := h.c0
  have c1 := h.c1
  rw [h.n] at c1
  have HU := hide (unmade5 c0)
  have HH := hide h
  have HD := hide hd
  have HEE := hide hE
  have HLW := hide hL
  have HWF := hide wf
  have HTH := hide hth
  obtain ⟨T, hT⟩ : ∃ T, T = trK S z := ⟨_, rfl⟩
  have HTM : Hid (trM M S z = if T = 0 then M else (drM M S T).flush) := by rw [hT]; rfl
  rw [← hT]
  have HT0 : Hid (T = 0 + trK (S.drop 0) z) := by show _ = _; rw [hT]; simp
  clear h hd hE hL wf hth hT c0
  go_enter Tryz.func17, Tryz.ntmps17
  go_wp2_with fail
  refine (unhide HU).mono ?_
  rintro e v0 ⟨rfl, hv0⟩
  have hv1 := hv0.symm
  subst hv1
  clear hv0 HU
  go_wp2_with fail
  go_loopw [6] (fun v wr => ∃ (k : Nat) (g' : Nat → Tg) (P : Option Addr) (pc : Nat) (l : List Gt), k ≤ S.length ∧ Hid (T = k + trK (S.drop k) z) ∧ Hid (LgS wr g' B D P pc l (S.drop k)) ∧ Hid (DK wr g' 0 D (drM M S k) (N + k)) ∧ Hid (St w wr g g' X01)) (fun _ wr => match wr.cell? ⟨B, 1, none⟩ with | some (.slice _ n _) => n | _ => 0)
  case atStart => exact ⟨0, g, P, pc, l, Nat.zero_le _, HT0, HH, HD, St.refl _ _ _⟩
  case round =>
    clear HT0 HH HD c1
    obtain ⟨k, g', P', pc', l', hk, HT, HH, HD, HS⟩ := hrel
    have c1 := (unhide HH).c1
    rw [(unhide HH).n] at c1
    have c0 := (unhide HH).c0
    obtain ⟨m, hm⟩ : ∃ m, m = (S.drop k).length := ⟨_, rfl⟩
    rw [← hm] at c1
    have hmk : m + k = S.length := by rw [hm]; simp; omega
    have HMK := hide hmk
    have HM := hide hm
    by_cases h1 : 1 < m
    · have h1' : (1 : Int) < (m : Int) := by omega
      obtain ⟨t, s, G, _, hs, hP, _, d0, _, _, _⟩ := (unhide HH).at (i := 1) (by rw [← hm]; exact h1)
      subst hP
      have d0' : wr.cell? ⟨G, 3, none⟩ = some (.int .i64 (s.first : Int)) := by simpa using d0
      obtain ⟨s0, hs0⟩ : ∃ s0, (S.drop k)[0]? = some s0 := ⟨_, List.getElem?_eq_getElem (by omega)⟩
      have hSk : S[k]? = some s0 := by rw [List.getElem?_drop] at hs0; simpa using hs0
      have htk : trK (S.drop k) z = if (s.first : Int) ≤ z then trK (S.drop (k + 1)) z + 1 else 0 := by
        have e : S.drop k = s0 :: s :: S.drop (k + 2) := by
          have hkl : k < S.length := by omega
          have hkl2 : k + 1 < S.length := by omega
          rw [List.drop_eq_getElem_cons hkl, List.drop_eq_getElem_cons hkl2]
          congr 1
          · have := List.getElem?_eq_getElem hkl; rw [hSk] at this; exact (Option.some.inj this).symm
          · congr 1
            rw [List.getElem?_drop] at hs
            have := List.getElem?_eq_getElem hkl2
            rw [hs] at this
            exact (Option.some.inj this).symm
        have e2 : S.drop (k + 1) = s :: S.drop (k + 2) := by
          have := congrArg (List.drop 1) e
          rw [List.drop_drop] at this
          simpa using this
        rw [e, e2]
        rfl
      clear d0 hm
      by_cases hz : (s.first : Int) ≤ z
      · have HT2 : Hid (T = (k + 1) + trK (S.drop (k + 1)) z) := by show _ = _; rw [unhide HT, htk, if_pos hz]; omega
        have hft : s0.first ≤ 9223372036854775807 := (unhide HTH s0 (List.mem_of_getElem? hSk)).2
        have HDF := hide (dropF5 w0 g' B D (some ⟨G, 0, none⟩) pc' l' (S.drop k) s0 (drM M S k) (N + k) wr (unhide HEE) ((unhide HLW).st2 (unhide HS) x01o) (unhide HH) (unhide HD) (by simp; omega) (by omega) hs0 hft ((unhide HTH).dropped (unhide HWF) k hSk))
        have HDS : Hid (drM M S (k + 1) = (drM M S k).drop (nmS s0.first) ∧ (S.drop k).drop 1 = S.drop (k + 1)) := ⟨drM_succ M S k s0 hSk, by rw [List.drop_drop]⟩
        clear htk hs hs0 hSk
        go_wp2_with fail
        refine (unhide HDF).mono ?_
        rintro e v2 ⟨rfl, HRL⟩
        rw [← (unhide HDS).1, (unhide HDS).2] at HRL
        obtain ⟨g2, P2, pc2, l2, y1, y2, y3⟩ := unhide HRL
        have HY := hide (And.intro y1 (And.intro y2 y3))
        clear HDF y1 y2 y3 HRL
        go_wp2_with fail
        go_roundw
        case rel => exact ⟨k + 1, g2, P2, pc2, l2, by omega, HT2, (unhide HY).1, (unhide HY).2.1, (unhide HS).trans (unhide HY).2.2⟩
        case measure =>
          have hc2 := (unhide HY).1.c1
          rw [(unhide HY).1.n] at hc2
          rw [hc2, c1]
          simp only [List.length_drop]
          have := unhide HMK
          omega
      · have HT2 : Hid (T = k) := by show _ = _; rw [unhide HT, htk, if_neg hz]; omega
        clear htk hs hs0 hSk
        by_cases hk0 : k = 0
        · have e0 : ((m : Int) == (S.length : Int)) = true := by rw [beq_iff_eq]; omega
          have HF : Hid (RL w wr g B D (trM M S z) (N + T + 1) (S.drop T)) := by
            show RL _ _ _ _ _ _ _ _
            rw [unhide HTM, unhide HT2]
            subst hk0
            rw [if_pos rfl]
            exact RL.monoN (N := N) ⟨g', _, pc', l', unhide HH, unhide HD, unhide HS⟩ (by omega)
          clear hk0 HM HMK hmk
          go_wp2_with fail
          go_ret
          exact ⟨rfl, HF⟩
        · have e0 : ((m : Int) == (S.length : Int)) = false := by rw [beq_eq_false_iff_ne]; omega
          have HFL := hide (flush_k g' 0 D (drM M S k) (N + k) wr (unhide HD) (by omega))
          have HTT : Hid (trM M S z = (drM M S k).flush ∧ T = k) := by
            refine ⟨?_, unhide HT2⟩
            rw [unhide HTM, unhide HT2, if_neg hk0]
          clear hk0 HM HMK hmk
          go_wp2_with fail
          refine (unhide HFL).mono ?_
          rintro e v3 ⟨rfl, hrk⟩
          have HF : Hid (RL w v3 g B D (trM M S z) (N + T + 1) (S.drop T)) := by
            show RL _ _ _ _ _ _ _ _
            rw [(unhide HTT).1, (unhide HTT).2]
            exact (RL.from (unhide HS) (RL.disk (unhide HH) hrk)).monoN (by omega)
          clear HFL hrk
          go_wp2_with fail
          go_ret
          exact ⟨rfl, HF⟩
    · have h1' : ¬ (1 : Int) < (m : Int) := by omega
      have HT2 : Hid (T = k) := by
        show _ = _
        rw [unhide HT]
        have : trK (S.drop k) z = 0 := by
          have hl : (S.drop k).length ≤ 1 := by rw [← hm]; omega
          match hS : S.drop k, hl with
          | [], _ => rfl
          | [a], _ => rfl
        rw [this]; rfl
      clear hm
      by_cases hk0 : k = 0
      · have e0 : ((m : Int) == (S.length : Int)) = true := by rw [beq_iff_eq]; omega
        have HF : Hid (RL w wr g B D (trM M S z) (N + T + 1) (S.drop T)) := by
          show RL _ _ _ _ _ _ _ _
          rw [unhide HTM, unhide HT2]
          subst hk0
          rw [if_pos rfl]
          exact RL.monoN (N := N) ⟨g', _, pc', l', unhide HH, unhide HD, unhide HS⟩ (by omega)
        clear hk0 HM HMK hmk
        go_wp2_with fail
        go_ret
        exact ⟨rfl, HF⟩
      · have e0 : ((m : Int) == (S.length : Int)) = false := by rw [beq_eq_false_iff_ne]; omega
        have HFL := hide (flush_k g' 0 D (drM M S k) (N + k) wr (unhide HD) (by omega))
        have HTT : Hid (trM M S z = (drM M S k).flush ∧ T = k) := by
          refine ⟨?_, unhide HT2⟩
          rw [unhide HTM, unhide HT2, if_neg hk0]
        clear hk0 HM HMK hmk
        go_wp2_with fail
        refine (unhide HFL).mono ?_
        rintro e v3 ⟨rfl, hrk⟩
        have HF : Hid (RL w v3 g B D (trM M S z) (N + T + 1) (S.drop T)) := by
          show RL _ _ _ _ _ _ _ _
          rw [(unhide HTT).1, (unhide HTT).2]
          exact (RL.from (unhide HS) (RL.disk (unhide HH) hrk)).monoN (by omega)
        clear HFL hrk
        go_wp2_with fail
        go_ret
        exact ⟨rfl, HF⟩
#print axioms trim5
end Go.Proofs.YtneclcihjbkhlaaGreatDoor
end
