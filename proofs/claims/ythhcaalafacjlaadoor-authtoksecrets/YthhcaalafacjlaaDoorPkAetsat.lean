/-
  authtok: THE WALKS of strings.IndexByte, strings.Cut (at one byte), isNameByte, Name.; authtok: ROWS OF SECRETS, Check.
-/
import Derived.Test.YthhcaalafacjlaaDoorPkAetsas
import Derived.Lib.Bytealg
section
set_option linter.unusedVariables false
set_option maxRecDepth 1000000
namespace Go.Proofs.YthhcaalafacjlaaDoor
open Go.RowKit

theorem run_ixs (w : World) (S : List UInt8) (k : Nat) (c : UInt8) (h : S[k]? = some c) : (Instr.index 9 (.string (str S)) (.int .i64 (k : Int))).run Tryd.prog w = .ok (.int .u8 (c.toNat : Int)) w := by
  rw [run_index_string w 9 (str S) .i64 (k : Int) Tryd.underlying9]
  have hk : k < S.length := (List.getElem?_eq_some_iff.1 h).1
  have hs : (str S).size = S.length := str_size S
  rw [dif_pos (by rw [hs]; omega)]
  have e2 : ((str S)[(k : Int).toNat]'(by rw [hs]; omega)) = c := by
    have : (S.toArray[k]'(by simpa using hk)) = c := by
      simpa using (List.getElem?_eq_some_iff.1 h).2
    exact this
  rw [e2]

set_option maxHeartbeats 1000000 in
theorem slIdx_any (s : ByteArray) (c : UInt8) (w : World) :
    Calls Tryd.prog 62 #[.string s, .int .u8 (c.toNat : Int)] w fun e w' => e = .returned (.int .i64 (Lib.indexByte s.data.toList c)) ∧ w' = w := by
  have hrun : (Extern.BytealgIndexByte.indexByte #[.string s, .int .u8 (c.toNat : Int)]).run Tryd.prog w = .ok (.int .i64 (Lib.indexByte s.data.toList c)) w := by
    rw [Lib.run_indexByteString]
    congr 3
    simp
  go_enter Tryd.func62, Tryd.ntmps62
  go_wp2
  rw [run_callFunc_extern Tryd.func82 (by kernel_rfl) (by kernel_rfl) (by kernel_rfl) (e := Extern.BytealgIndexByte.indexByte) (by kernel_rfl), hrun]
  simp only [Result.andThen]
  rw [Oper.upon_value]
  go_wp2
  go_ret
  exact ⟨rfl, rfl⟩
set_option maxHeartbeats 1000000 in
theorem sIdx_any (s : ByteArray) (c : UInt8) (w : World) :
    Calls Tryd.prog 45 #[.string s, .int .u8 (c.toNat : Int)] w fun e w' => e = .returned (.int .i64 (Lib.indexByte s.data.toList c)) ∧ w' = w := by
  go_enter Tryd.func45, Tryd.ntmps45
  go_wp2_with (go_at_call 62; refine (slIdx_any s c _).mono ?_; rintro e w2 ⟨rfl, rfl⟩)
  go_ret
  exact ⟨rfl, rfl⟩

theorem nm_index (c : UInt8) : (0 : Int) ≤ Lib.indexByte [46, 45, 95] c ↔ (c == 46 || c == 45 || c == 95) = true := by
  by_cases h1 : c = 46
  · subst h1; decide
  by_cases h2 : c = 45
  · subst h2; decide
  by_cases h3 : c = 95
  · subst h3; decide
  have e : Lib.indexByte [46, 45, 95] c = -1 := by
    simp [Lib.indexByte, Ne.symm h1, Ne.symm h2, Ne.symm h3]
  rw [e]
  simp [h1, h2, h3]
theorem nmB_nat (c : UInt8) (X : Nat) (hX : c.toNat = X) : nmB c = (decide (97 ≤ X ∧ X ≤ 122) || decide (65 ≤ X ∧ X ≤ 90) || decide (48 ≤ X ∧ X ≤ 57) || (c == 46 || c == 45 || c == 95)) := by
  subst hX
  unfold nmB
  have k : ∀ a b : UInt8, decide (a ≤ b) = decide (a.toNat ≤ b.toNat) := fun a b => rfl
  simp only [k]
  simp [Bool.or_assoc, Bool.decide_and]

set_option maxHeartbeats 2000000 in
theorem isName_any (c : UInt8) (w : World) :
    Calls Tryd.prog 26 #[.int .u8 (c.toNat : Int)] w fun e w' => e = .returned (.bool (nmB c)) ∧ w' = w := by
  have hc := c.toNat_lt
  obtain ⟨X, hX⟩ : ∃ X, c.toNat = X := ⟨_, rfl⟩
  have hn := nmB_nat c X hX
  have hI := nm_index c
  have hcall := fun w => sIdx_any ⟨#[46, 45, 95]⟩ c w
  generalize (c == 46 || c == 45 || c == 95) = t at *
  have HN := hide hn
  have HI := hide hI
  have HC := hide hcall
  clear hn hI hcall
  rw [hX] at hc ⊢
  simp only [hX] at HC
  clear hX
  by_cases h1 : 97 ≤ X ∧ X ≤ 122
  · obtain ⟨h1, h2⟩ := h1
    have h3 : ¬ X ≤ 90 := by omega
    have h4 : ¬ X ≤ 57 := by omega
    have HE : Hid (nmB c = true) := by show _ = _; rw [HN.out]; simp [h1, h2]
    go_enter Tryd.func26, Tryd.ntmps26
    go_wp2
    go_ret
    exact ⟨by rw [HE.out]; rfl, rfl⟩
  by_cases h2 : 65 ≤ X ∧ X ≤ 90
  · obtain ⟨h2, h3⟩ := h2
    have h4 : ¬ 97 ≤ X := by omega
    have HE : Hid (nmB c = true) := by show _ = _; rw [HN.out]; simp [h2, h3]
    go_enter Tryd.func26, Tryd.ntmps26
    go_wp2
    go_ret
    exact ⟨by rw [HE.out]; rfl, rfl⟩
  by_cases h3 : 48 ≤ X ∧ X ≤ 57
  · obtain ⟨h3, h4⟩ := h3
    have h5 : ¬ 97 ≤ X := by omega
    have h6 : ¬ 65 ≤ X := by omega
    have HE : Hid (nmB c = true) := by show _ = _; rw [HN.out]; simp [h3, h4]
    go_enter Tryd.func26, Tryd.ntmps26
    go_wp2
    go_ret
    exact ⟨by rw [HE.out]; rfl, rfl⟩
  have HE : Hid (nmB c = t) := by
    show _ = _
    rw [HN.out, decide_eq_false h1, decide_eq_false h2, decide_eq_false h3]
    simp
  have HCC : Hid (∀ w, Calls Tryd.prog 45 #[.string ⟨#[46, 45, 95]⟩, .int .u8 (X : Int)] w fun e w' => ∃ r : Int, e = .returned (.int .i64 r) ∧ Hid (decide (0 ≤ r) = t) ∧ w' = w) := by
    intro w
    refine (HC.out w).mono ?_
    rintro e w2 ⟨rfl, rfl⟩
    refine ⟨_, rfl, ?_, rfl⟩
    show decide _ = t
    cases t with
    | true => exact decide_eq_true (HI.out.2 rfl)
    | false => exact decide_eq_false (fun h => by have := HI.out.1 h; cases this)
  clear HC HI HN
  have fin : ∀ (g : Prop), g → g := fun _ h => h
  by_cases k1 : 97 ≤ X
  · have k2 : ¬ X ≤ 122 := by omega
    have k3 : 65 ≤ X := by omega
    have k4 : ¬ X ≤ 90 := by omega
    have k5 : 48 ≤ X := by omega
    have k6 : ¬ X ≤ 57 := by omega
    clear h1 h2 h3
    have dd1 : decide ((X : Int) ≤ 122) = false := decide_eq_false (by omega)
    have dd2 : decide ((X : Int) ≤ 90) = false := decide_eq_false (by omega)
    have dd3 : decide ((X : Int) ≤ 57) = false := decide_eq_false (by omega)
    go_enter Tryd.func26, Tryd.ntmps26
    go_wp2_with (go_at_call 45; refine (HCC.out _).mono ?_; rintro e w2 ⟨r, rfl, hr, rfl⟩)
    go_ret
    exact ⟨by rw [HE.out, ← hr.out]; rfl, rfl⟩
  by_cases k3 : 65 ≤ X
  · have k4 : ¬ X ≤ 90 := by omega
    have k5 : 48 ≤ X := by omega
    have k6 : ¬ X ≤ 57 := by omega
    clear h1 h2 h3
    have dd2 : decide ((X : Int) ≤ 90) = false := decide_eq_false (by omega)
    have dd3 : decide ((X : Int) ≤ 57) = false := decide_eq_false (by omega)
    go_enter Tryd.func26, Tryd.ntmps26
    go_wp2_with (go_at_call 45; refine (HCC.out _).mono ?_; rintro e w2 ⟨r, rfl, hr, rfl⟩)
    go_ret
    exact ⟨by rw [HE.out, ← hr.out]; rfl, rfl⟩
  by_cases k5 : 48 ≤ X
  · have k6 : ¬ X ≤ 57 := by omega
    clear h1 h2 h3
    have dd3 : decide ((X : Int) ≤ 57) = false := decide_eq_false (by omega)
    go_enter Tryd.func26, Tryd.ntmps26
    go_wp2_with (go_at_call 45; refine (HCC.out _).mono ?_; rintro e w2 ⟨r, rfl, hr, rfl⟩)
    go_ret
    exact ⟨by rw [HE.out, ← hr.out]; rfl, rfl⟩
  · clear h1 h2 h3
    go_enter Tryd.func26, Tryd.ntmps26
    go_wp2_with (go_at_call 45; refine (HCC.out _).mono ?_; rintro e w2 ⟨r, rfl, hr, rfl⟩)
    go_ret
    exact ⟨by rw [HE.out, ← hr.out]; rfl, rfl⟩

set_option maxHeartbeats 2000000 in
theorem name_any (s : List UInt8) (w : World) (hs : s.length ≤ 100000) :
    Calls Tryd.prog 12 #[.string (str s)] w fun e w' => e = .returned (.bool (nmOk s)) ∧ w' = w := by
  have hsz : (str s).size = s.length := str_size s
  by_cases h0 : s = []
  · subst h0
    go_enter Tryd.func12, Tryd.ntmps12
    go_wp2
    go_ret
    exact ⟨rfl, rfl⟩
  have hl0 : ¬ s.length = 0 := fun h => h0 (List.eq_nil_of_length_eq_zero h)
  have hl0' : ¬ (s.length : Int) = 0 := by omega
  by_cases h1 : 24 < s.length
  · have HE : Hid (nmOk s = false) := by show _ = _; unfold nmOk; rw [decide_eq_false (show ¬ s.length ≤ 24 by omega)]; simp
    clear h0
    go_enter Tryd.func12, Tryd.ntmps12
    go_wp2
    go_ret
    exact ⟨by rw [HE.out]; rfl, rfl⟩
  have HE : Hid (nmOk s = s.all nmB) := by
    show _ = _
    unfold nmOk
    rw [decide_eq_true h0, decide_eq_true (show s.length ≤ 24 by omega)]
    simp
  have hidx : ∀ i : Nat, i < s.length → ∀ w : World, (Instr.index 9 (.string (str s)) (.int .i64 (i : Int))).run Tryd.prog w = .ok (.int .u8 ((s.getD i 0).toNat : Int)) w := by
    intro i hi w
    exact run_ixs w s i _ (by rw [List.getD_eq_getElem?_getD, List.getElem?_eq_getElem hi]; rfl)
  have HX := hide hidx
  have hd1 : decide ((24 : Int) < (s.length : Int)) = false := decide_eq_false (by omega)
  have hq0 : ((s.length : Int) == 0) = false := by simp; omega
  clear hidx h0
  go_enter Tryd.func12, Tryd.ntmps12
  go_wp2
  go_loopw [14] (fun v wr => ∃ i : Nat, i ≤ s.length ∧ v = .int .i64 (i : Int) ∧ Hid ((s.take i).all nmB = true) ∧ wr = w) (fun v _ => s.length - (intOf v).toNat)
  case atStart => exact ⟨0, Nat.zero_le _, rfl, (by show _ = _; simp), rfl⟩
  case round =>
    obtain ⟨i, hi, rfl, ha, rfl⟩ := hrel
    by_cases hlt : i < s.length
    · have hx := HX.out i hlt
      have HS : Hid (s.take (i + 1) = s.take i ++ [s.getD i 0]) := by show _ = _; rw [List.take_add_one]; simp [hlt]
      have HM : Hid (s.getD i 0 ∈ s) := by show _ ∈ _; simp [hlt]
      generalize s.getD i 0 = c at *
      cases hc : nmB c with
      | true =>
        have HC := hide hc
        clear hc
        go_wp2_with (go_at_call 26; refine (isName_any c _).mono ?_; rintro e w2 ⟨rfl, rfl⟩; rw [HC.out])
        go_roundw
        case rel => exact ⟨i + 1, by omega, by go_num, (by show _ = _; rw [HS.out, List.all_append, ha.out]; simp [HC.out]), trivial⟩
        case measure => simp [intOf]; omega
      | false =>
        have HC := hide hc
        have HF : Hid (s.all nmB = false) := by
          show _ = _
          rw [List.all_eq_false]
          exact ⟨c, HM.out, by rw [hc]; simp⟩
        clear hc
        go_wp2_with (go_at_call 26; refine (isName_any c _).mono ?_; rintro e w2 ⟨rfl, rfl⟩; rw [HC.out])
        go_ret
        exact ⟨by rw [HE.out, HF.out]; rfl, rfl⟩
    · obtain rfl : i = s.length := by omega
      rw [List.take_length] at ha
      go_wp2
      go_ret
      exact ⟨by rw [HE.out, ha.out]; rfl, rfl⟩
#print axioms name_any
end Go.Proofs.YthhcaalafacjlaaDoor
end
section
set_option linter.unusedVariables false
set_option maxRecDepth 1000000
namespace Go.Proofs.YthhcaalafacjlaaDoor
open Go.RowKit

/-- A slice's cells hold these secrets. -/
structure SecR (w : World) (p : Option Addr) (L : List Sec) : Prop where
  mem : L ≠ [] → ∃ b off, p = some ⟨b, off, none⟩ ∧ ∀ i s, L[i]? = some s → ∃ x c, w.cell? ⟨b, off + i * 2, none⟩ = some (.int .i64 s.1) ∧ w.cell? ⟨b, off + i * 2 + 1, none⟩ = some (.slice x s.2.length c) ∧ Bs w x c s.2
  int : ∀ s ∈ L, -9223372036854775808 ≤ s.1 ∧ s.1 ≤ 9223372036854775807
theorem SecR.below {w w' : World} {B : Nat} {p : Option Addr} {L : List Sec} (h : SecR w p L) (hb : Below B w w') (hB : w.heap.size ≤ B) : SecR w' p L := by
  refine ⟨fun hne => ?_, h.int⟩
  obtain ⟨b, off, e, hc⟩ := h.mem hne
  refine ⟨b, off, e, fun i s hs => ?_⟩
  obtain ⟨x, c, h1, h2, h3⟩ := hc i s hs
  have hlt := World.block_lt_of_cell? w _ h1
  exact ⟨x, c, (show w'.cell? ⟨b, off + i * 2, none⟩ = _ by rw [hb.cell (show b < B from Nat.lt_of_lt_of_le hlt hB)]; exact h1), (show w'.cell? ⟨b, off + i * 2 + 1, none⟩ = _ by rw [hb.cell (show b < B from Nat.lt_of_lt_of_le hlt hB)]; exact h2), h3.below hb hB⟩
theorem SecR.take {w : World} {p : Option Addr} {L : List Sec} (h : SecR w p L) (n : Nat) : SecR w p (L.take n) := by
  refine ⟨fun hne => ?_, fun s hs => h.int s (List.mem_of_mem_take hs)⟩
  obtain ⟨b, off, e, hc⟩ := h.mem (by intro e; subst e; simp at hne)
  refine ⟨b, off, e, fun i s hs => ?_⟩
  rw [List.getElem?_take] at hs
  split at hs
  · exact hc i s hs
  · cases hs
theorem SecR.at {w : World} {p : Option Addr} {L : List Sec} (h : SecR w p L) {i : Nat} {s : Sec} (hs : L[i]? = some s) : ∃ b off x c, p = some ⟨b, off, none⟩ ∧ w.cell? ⟨b, off + i * 2, none⟩ = some (.int .i64 s.1) ∧ w.cell? ⟨b, off + i * 2 + 1, none⟩ = some (.slice x s.2.length c) ∧ Bs w x c s.2 ∧ b < w.heap.size := by
  obtain ⟨b, off, e, hc⟩ := h.mem (by intro e; subst e; simp at hs)
  obtain ⟨x, c, h1, h2, h3⟩ := hc i s hs
  exact ⟨b, off, x, c, e, h1, h2, h3, World.block_lt_of_cell? w _ h1⟩

def ckS (m : Int) (s : Sec) : Bool := decide (m ≤ s.1) && decide (s.1 ≤ 1099511627776) && decide (16 ≤ s.2.length) && decide (s.2.length ≤ 64)
theorem ckFrom_cons (m : Int) (s : Sec) (r : List Sec) : ckFrom m (s :: r) = (ckS m s && ckFrom (s.1 + 1) r) := rfl
theorem ckFrom_app : ∀ (A B : List Sec) (m : Int), ckFrom m (A ++ B) = (ckFrom m A && ckFrom ((A.getLast?.map (·.1 + 1)).getD m) B)
  | [], B, m => by simp [ckFrom]
  | [s], B, m => by simp [ckFrom]
  | s :: t :: r, B, m => by
    rw [List.cons_append, ckFrom_cons, ckFrom_cons, ckFrom_app (t :: r) B (s.1 + 1), Bool.and_assoc]
    congr 2
/-- The least ID that may come behind the first i. -/
def leastAt (L : List Sec) (i : Nat) : Int := ((L.take i).getLast?.map (·.1 + 1)).getD 0
theorem leastAt_succ (L : List Sec) (i : Nat) (s : Sec) (h : L[i]? = some s) : leastAt L (i + 1) = s.1 + 1 := by
  unfold leastAt
  rw [List.take_add_one, h]
  simp
theorem ck_succ (L : List Sec) (i : Nat) (s : Sec) (h : L[i]? = some s) : ckFrom 0 (L.take (i + 1)) = (ckFrom 0 (L.take i) && ckS (leastAt L i) s) := by
  rw [List.take_add_one, h]
  show ckFrom 0 (L.take i ++ [s]) = _
  rw [ckFrom_app]
  show _ = (ckFrom 0 (L.take i) && ckS _ s)
  rw [ckFrom_cons]
  simp [ckFrom, leastAt]
theorem ck_bad (L : List Sec) (i : Nat) (h : ckFrom 0 (L.take i) = false) : ckFrom 0 L = false := by
  cases hc : ckFrom 0 L with
  | false => rfl
  | true => rw [ck_take L 0 i hc] at h; cases h

set_option maxHeartbeats 4000000 in
theorem check_core (E : Int) (p : Option Addr) (c : Nat) (L : List Sec) (w : World) (HEQ : Hid (E = if ckOk L then 0 else 102)) (h : SecR w p L) (hl : L.length ≤ 140737488355328) :
    Calls Tryd.prog 10 #[.slice p L.length c] w fun e w' => e = .returned (.int .i64 E) ∧ Below w.heap.size w w' := by
  by_cases h0 : L = []
  · subst h0
    obtain rfl : E = 102 := HEQ.out
    go_enter Tryd.func10, Tryd.ntmps10
    go_wp2
    go_ret
    exact ⟨rfl, Below.refl _ _⟩
  have hl0 : ¬ L.length = 0 := fun h => h0 (List.eq_nil_of_length_eq_zero h)
  have hl0' : ¬ (L.length : Int) = 0 := by omega
  by_cases h1 : 8 < L.length
  · obtain rfl : E = 102 := by rw [HEQ.out]; unfold ckOk; rw [decide_eq_false (show ¬ L.length ≤ 8 by omega)]; simp
    clear h0 HEQ
    have hd1 : decide ((8 : Int) < (L.length : Int)) = true := decide_eq_true (by omega)
    go_enter Tryd.func10, Tryd.ntmps10
    go_wp2
    go_ret
    exact ⟨rfl, Below.refl _ _⟩
  have HE : Hid (E = if ckFrom 0 L then 0 else 102) := by
    show _ = _
    rw [HEQ.out]
    unfold ckOk
    rw [decide_eq_true h0, decide_eq_true (show L.length ≤ 8 by omega)]
    simp
  have HS := hide h
  have hd1 : decide ((8 : Int) < (L.length : Int)) = false := decide_eq_false (by omega)
  have hq0 : ((L.length : Int) == 0) = false := by simp; omega
  clear h h0 HEQ
  go_enter Tryd.func10, Tryd.ntmps10
  go_wp2
  go_loopw [3, 16] (fun vm v wr => ∃ (i : Nat) (m : Int), i ≤ L.length ∧ v = .int .i64 (i : Int) ∧ vm = .int .i64 m ∧ 0 ≤ m ∧ m ≤ 1099511627777 ∧ Hid (m = leastAt L i) ∧ Hid (ckFrom 0 (L.take i) = true) ∧ Hid (Below w.heap.size w wr)) (fun _ v _ => L.length - (intOf v).toNat)
  case atStart => exact ⟨0, 0, Nat.zero_le _, rfl, rfl, by omega, by omega, rfl, rfl, Below.refl _ _⟩
  case round =>
    obtain ⟨i, m, hi, rfl, rfl, hm0, hm1, hm, hck, hb⟩ := hrel
    by_cases hlt : i < L.length
    · obtain ⟨s, hs⟩ : ∃ s, L[i]? = some s := ⟨_, List.getElem?_eq_getElem hlt⟩
      obtain ⟨b, off, x, cx, rfl, c0, c1, hB, hbl⟩ := (HS.out.below hb.out (Nat.le_refl _)).at hs
      have hbm := Nat.le_trans hB.le hB.most
      unfold maxLen at hbm
      have HK := hide (ck_succ L i s hs)
      have HL := hide (leastAt_succ L i s hs)
      have hint := HS.out.int s (List.mem_of_getElem? hs)
      rw [hck.out, ← hm.out] at HK
      obtain ⟨id, bt⟩ := s
      simp only at c0 c1 hbm hint HL
      have HBD : Hid (ckS m (id, bt) = false → E = 102) := fun h => by rw [HE.out, ck_bad L (i + 1) (by rw [HK.out, h]; rfl)]; rfl
      have HGD : Hid (ckS m (id, bt) = true → ckFrom 0 (L.take (i + 1)) = true) := fun h => by rw [HK.out, h]; rfl
      clear hs HK hB
      have hi2 : (i : Int) < (L.length : Int) := by omega
      by_cases q1 : id < m
      · obtain rfl := HBD.out (by simp [ckS]; omega)
        have g1 : decide (id < m) = true := decide_eq_true q1
        go_wp2
        go_ret
        exact ⟨rfl, hb.out.alloc hb.out.size _⟩
      have g1 : decide (id < m) = false := decide_eq_false q1
      by_cases q2 : 1099511627776 < id
      · obtain rfl := HBD.out (by simp [ckS]; omega)
        have g2 : decide (1099511627776 < id) = true := decide_eq_true q2
        go_wp2
        go_ret
        exact ⟨rfl, hb.out.alloc hb.out.size _⟩
      have g2 : decide (1099511627776 < id) = false := decide_eq_false q2
      by_cases q3 : bt.length < 16
      · obtain rfl := HBD.out (by simp [ckS]; omega)
        have g3 : decide ((bt.length : Int) < 16) = true := decide_eq_true (by omega)
        go_wp2
        go_ret
        exact ⟨rfl, hb.out.alloc hb.out.size _⟩
      have g3 : decide ((bt.length : Int) < 16) = false := decide_eq_false (by omega)
      by_cases q4 : 64 < bt.length
      · obtain rfl := HBD.out (by simp [ckS]; omega)
        have g4 : decide ((64 : Int) < (bt.length : Int)) = true := decide_eq_true (by omega)
        go_wp2
        go_ret
        exact ⟨rfl, hb.out.alloc hb.out.size _⟩
      have g4 : decide ((64 : Int) < (bt.length : Int)) = false := decide_eq_false (by omega)
      have HG := hide (HGD.out (by simp [ckS]; omega))
      clear HBD HGD
      go_wp2
      go_roundw
      case rel => exact ⟨i + 1, id + 1, by omega, by go_num, by go_num, by omega, by omega, (by show _ = _; rw [HL.out]), HG, hb.out.alloc hb.out.size _⟩
      case measure => simp [intOf]; omega
    · obtain rfl : i = L.length := by omega
      rw [List.take_length] at hck
      obtain rfl : E = 0 := by rw [HE.out, hck.out]; rfl
      go_wp2
      go_ret
      exact ⟨rfl, hb.out⟩
theorem check_any (p : Option Addr) (c : Nat) (L : List Sec) (n : Nat) (w : World) (hn : n = L.length) (h : SecR w p L) (hl : n ≤ 140737488355328) :
    Calls Tryd.prog 10 #[.slice p n c] w fun e w' => e = .returned (.int .i64 (if ckOk L then 0 else 102)) ∧ Below w.heap.size w w' := by
  subst hn
  exact check_core _ p c L w rfl h hl
#print axioms check_any
end Go.Proofs.YthhcaalafacjlaaDoor
end
