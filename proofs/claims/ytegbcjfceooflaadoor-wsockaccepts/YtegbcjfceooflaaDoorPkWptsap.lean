/-
  THE WALK of the reference's Base64.
-/
import Derived.Test.YtegbcjfceooflaaDoorPkWptsao
import Derived.Test.YtegbcjfceooflaaDoorPkWptsal
import Derived.Test.YtegbcjfceooflaaDoorPkWptsad
section
set_option linter.unusedVariables false
namespace Go.Proofs.YtegbcjfceooflaaDoor
open Go.RowKit

/-- Base64 without what it is filled up with. -/
def unp : List UInt8 → List UInt8
  | [] => []
  | [x] => [l6 (x.toNat / 4), l6 (x.toNat % 4 * 16)]
  | [x, y] => [l6 (x.toNat / 4), l6 (x.toNat % 4 * 16 + y.toNat / 16), l6 (y.toNat % 16 * 4)]
  | x :: y :: z :: r => fl x y z ++ unp r
/-- What is filled up. -/
def fil (r : List UInt8) : List UInt8 := r ++ List.replicate ((4 - r.length % 4) % 4) 61
theorem fil_four (x r : List UInt8) (h : x.length = 4) : fil (x ++ r) = x ++ fil r := by
  unfold fil
  rw [List.length_append, h, List.append_assoc]
  congr 2
  congr 1
  omega
theorem fil_unp : ∀ l : List UInt8, fil (unp l) = b64 l
  | [] => rfl
  | [x] => rfl
  | [x, y] => rfl
  | x :: y :: z :: r => by
    rw [unp, fil_four _ _ rfl, fil_unp r, b64]
theorem fil_done (r : List UInt8) (h : r.length % 4 = 0) : fil r = r := by
  unfold fil
  rw [show (4 - r.length % 4) % 4 = 0 by omega]
  simp
theorem fil_step (r : List UInt8) (h : r.length % 4 ≠ 0) : fil (r ++ [61]) = fil r := by
  unfold fil
  obtain ⟨m, hm⟩ : ∃ m, (4 - r.length % 4) % 4 = m + 1 := ⟨(4 - r.length % 4) % 4 - 1, by omega⟩
  have e : (4 - (r ++ [61]).length % 4) % 4 = m := by simp only [List.length_append, List.length_cons, List.length_nil]; omega
  rw [hm, e, List.replicate_succ, List.append_assoc]
  rfl

def gq (B : List Nat) : List UInt8 := if h : B = [] then [] else l6 (vk B 6) :: gq (B.drop 6)
termination_by B.length
decreasing_by
  have : 0 < B.length := List.length_pos_iff.2 h
  simp; omega
theorem gq_nil : gq [] = [] := by rw [gq]; simp
theorem gq_cons (B : List Nat) (h : 0 < B.length) : gq B = l6 (vk B 6) :: gq (B.drop 6) := by
  rw [gq, dif_neg (List.length_pos_iff.1 h)]
theorem gq_snoc : ∀ (n : Nat) (B : List Nat), B.length ≤ n → B.length % 6 ≠ 0 → gq (B ++ [0]) = gq B
  | 0, B, h0, h => by omega
  | n + 1, B, h0, h => by
    rw [gq_cons (B ++ [0]) (by simp), gq_cons B (by omega), vk_snoc]
    congr 1
    by_cases h6 : B.length < 6
    · rw [List.drop_eq_nil_of_le (by simp; omega), List.drop_eq_nil_of_le (by omega)]
    · rw [List.drop_append_of_le_length (by omega)]
      exact gq_snoc n _ (by simp; omega) (by simp; omega)

theorem gq_bits : ∀ l : List UInt8, gq (bits8 l) = unp l
  | [] => gq_nil
  | [a] => by
    have ha := a.toNat_lt
    rw [unp, bits8_cons, bl8, show bits8 [] = [] from rfl]
    simp only [List.cons_append, List.nil_append]
    rw [gq_cons _ (by simp), v6]
    simp only [List.drop_succ_cons, List.drop_zero]
    rw [gq_cons _ (by simp), v62]
    simp only [List.drop_succ_cons, List.drop_nil]
    rw [gq_nil]
    congr 2
    · omega
    · congr 1; omega
  | [a, b] => by
    have ha := a.toNat_lt
    have hb := b.toNat_lt
    rw [unp, bits8_cons, bits8_cons, bl8, bl8, show bits8 [] = [] from rfl]
    simp only [List.cons_append, List.nil_append]
    rw [gq_cons _ (by simp), v6]
    simp only [List.drop_succ_cons, List.drop_zero]
    rw [gq_cons _ (by simp), v6]
    simp only [List.drop_succ_cons, List.drop_zero]
    rw [gq_cons _ (by simp), v64]
    simp only [List.drop_succ_cons, List.drop_nil]
    rw [gq_nil]
    have e1 : 32 * (a.toNat / 128 % 2) + 16 * (a.toNat / 64 % 2) + 8 * (a.toNat / 32 % 2) + 4 * (a.toNat / 16 % 2) + 2 * (a.toNat / 8 % 2) + a.toNat / 4 % 2 = a.toNat / 4 := by omega
    have e2 : 32 * (a.toNat / 2 % 2) + 16 * (a.toNat % 2) + 8 * (b.toNat / 128 % 2) + 4 * (b.toNat / 64 % 2) + 2 * (b.toNat / 32 % 2) + b.toNat / 16 % 2 = a.toNat % 4 * 16 + b.toNat / 16 := by omega
    have e3 : 32 * (b.toNat / 8 % 2) + 16 * (b.toNat / 4 % 2) + 8 * (b.toNat / 2 % 2) + 4 * (b.toNat % 2) = b.toNat % 16 * 4 := by omega
    rw [e1, e2, e3]
  | a :: b :: c :: l => by
    have ha := a.toNat_lt
    have hb := b.toNat_lt
    have hc := c.toNat_lt
    rw [unp, fl, bits8_cons, bits8_cons, bits8_cons, bl8, bl8, bl8]
    simp only [List.cons_append, List.nil_append]
    rw [gq_cons _ (by simp), v6]
    simp only [List.drop_succ_cons, List.drop_zero]
    rw [gq_cons _ (by simp), v6]
    simp only [List.drop_succ_cons, List.drop_zero]
    rw [gq_cons _ (by simp), v6]
    simp only [List.drop_succ_cons, List.drop_zero]
    rw [gq_cons _ (by simp), v6]
    simp only [List.drop_succ_cons, List.drop_zero]
    rw [gq_bits l]
    have e1 : 32 * (a.toNat / 128 % 2) + 16 * (a.toNat / 64 % 2) + 8 * (a.toNat / 32 % 2) + 4 * (a.toNat / 16 % 2) + 2 * (a.toNat / 8 % 2) + a.toNat / 4 % 2 = a.toNat / 4 := by omega
    have e2 : 32 * (a.toNat / 2 % 2) + 16 * (a.toNat % 2) + 8 * (b.toNat / 128 % 2) + 4 * (b.toNat / 64 % 2) + 2 * (b.toNat / 32 % 2) + b.toNat / 16 % 2 = a.toNat % 4 * 16 + b.toNat / 16 := by omega
    have e3 : 32 * (b.toNat / 8 % 2) + 16 * (b.toNat / 4 % 2) + 8 * (b.toNat / 2 % 2) + 4 * (b.toNat % 2) + 2 * (c.toNat / 128 % 2) + c.toNat / 64 % 2 = b.toNat % 16 * 4 + c.toNat / 64 := by omega
    have e4 : 32 * (c.toNat / 32 % 2) + 16 * (c.toNat / 16 % 2) + 8 * (c.toNat / 8 % 2) + 4 * (c.toNat / 4 % 2) + 2 * (c.toNat / 2 % 2) + c.toNat % 2 = c.toNat % 64 := by omega
    rw [e1, e2, e3, e4]


theorem str_append (x y : List UInt8) : str x ++ str y = str (x ++ y) := by
  apply ByteArray.ext
  simp [str, ByteArray.data_append]
theorem run_add_str (w : World) (x y : List UInt8) (hx : x.length ≤ 8388608) (hy : y.length ≤ 8388608) : (Op.stringOp .add (str x) (str y)).run Tryd.prog w = .ok (.string (str (x ++ y))) w := by
  rw [run_string_add_sum w _ _ (by rw [str_size, str_size]; omega), str_append]
theorem run_cut6 (w : World) (X : Nat) (h : X < 64) : (Instr.slice 9 (.string { data := #[65, 66, 67, 68, 69, 70, 71, 72, 73, 74, 75, 76, 77, 78, 79, 80, 81, 82, 83, 84, 85, 86, 87, 88, 89, 90, 97, 98, 99, 100, 101, 102, 103, 104, 105, 106, 107, 108, 109, 110, 111, 112, 113, 114, 115, 116, 117, 118, 119, 120, 121, 122, 48, 49, 50, 51, 52, 53, 54, 55, 56, 57, 43, 47] }) (some (.int .i64 (X : Int))) (some (.int .i64 ((X : Int) + 1))) none).run Tryd.prog w = .ok (.string (str [l6 X])) w := by
  have h0 : (Instr.slice 9 (.string (str lets6)) (some (.int .i64 (X : Int))) (some (.int .i64 ((X : Int) + 1))) none).run Tryd.prog w = .ok (.string (str [l6 X])) w := by
    have hs : (str lets6).size = 64 := rfl
    rw [run_slice_string w 9 (str lets6) .i64 .i64 (X : Int) ((X : Int) + 1) Tryd.underlying9 (by omega) (by omega) (by rw [hs]; omega)]
    have e1 : ((X : Int) + 1).toNat = X + 1 := by omega
    rw [e1, Int.toNat_natCast]
    have e2 : (str lets6).extract X (X + 1) = str ((lets6.drop X).take 1) := by
      have := ByteArray.extract_mk lets6 X (X + 1)
      rw [Nat.add_sub_cancel_left] at this
      exact this
    rw [e2]
    have hl : X < lets6.length := h
    rw [List.drop_eq_getElem_cons hl]
    have e3 : l6 X = lets6[X] := by simp [l6, hl]
    rw [e3]
    rfl
  exact h0
def vlen : Value → Nat
  | .string s => s.size
  | _ => 0
theorem tmodn (m n : Nat) : (m : Int).tmod (n : Int) = ((m % n : Nat) : Int) := rfl
set_option maxHeartbeats 4000000 in
theorem rb64_any (a : Option Addr) (cap : Nat) (l : List UInt8) (w : World) (hB : Bs w a cap l) (hl : l.length ≤ 100000) :
    Calls Tryd.prog 20 #[.slice a l.length cap] w fun e w' => e = .returned (.string (str (b64 l))) ∧ Below w.heap.size w w' := by
  have hbl := bits8_length l
  go_enter Tryd.func20, Tryd.ntmps20
  go_wp2
  go_loopw [3, 13] (fun v i wr => ∃ (k : Nat) (a' : Option Addr) (cap' : Nat) (B : List Nat), k ≤ l.length ∧ i = .int .i64 (k : Int) ∧ v = .slice a' B.length cap' ∧ Hid (B ++ bits8 (l.drop k) = bits8 l) ∧ OwnI wr w.heap.size a' cap' B ∧ Below w.heap.size w wr) (fun _ i _ => l.length - (intOf i).toNat)
  case atStart => exact ⟨0, none, 0, [], Nat.zero_le _, rfl, rfl, rfl, OwnI.nil _ _, Below.refl _ _⟩
  case round =>
    obtain ⟨k, a', cap', B, hk, rfl, rfl, HR, ho, hb⟩ := hrel
    have hBl : B.length ≤ 8 * l.length := by
      have := congrArg List.length (unhide HR)
      simp only [List.length_append] at this
      omega
    by_cases hlt : k < l.length
    · obtain ⟨b, off, rfl, hcell⟩ := hB.row (by intro e; subst e; simp at hlt)
      have hcellk := (hB.row.below hb (Nat.le_refl _))
      obtain ⟨b', off', hh', hcw⟩ := hcellk (by intro e; subst e; simp at hlt)
      obtain ⟨rfl, rfl⟩ : b = b' ∧ off = off' := by simpa using Option.some.inj hh'
      have hck := hcw k hlt
      clear hcw hcell hh'
      obtain ⟨X, hX⟩ : ∃ X : Nat, (l.getD k 0).toNat = X := ⟨_, rfl⟩
      have hXl : X < 256 := by rw [← hX]; exact (l.getD k 0).toNat_lt
      have HR1 : Hid (B ++ bl X 8 ++ bits8 (l.drop (k + 1)) = bits8 l) := by
        have := unhide HR
        rw [List.drop_eq_getElem_cons hlt, bits8_cons] at this
        have e : l[k].toNat = X := by rw [← hX]; simp [hlt]
        show _ = _
        rw [← this, ← e, List.append_assoc]
      rw [hX] at hck
      clear hX HR
      go_wp2
      go_loopw [3, 6] (fun v i wr => ∃ (n : Nat) (a' : Option Addr) (cap' : Nat) (B : List Nat), n ≤ 8 ∧ i = .int .i64 ((n : Int) - 1) ∧ v = .slice a' B.length cap' ∧ Hid (B ++ bl X n ++ bits8 (l.drop (k + 1)) = bits8 l) ∧ OwnI wr w.heap.size a' cap' B ∧ Below w.heap.size w wr) (fun _ i _ => (intOf i + 1).toNat)
      case atStart => exact ⟨8, a', cap', B, Nat.le_refl _, rfl, rfl, HR1, ho, hb⟩
      case round =>
        clear HR1 ho hb hck hBl
        obtain ⟨n, a', cap', B, hn, rfl, rfl, HR, ho, hb⟩ := hrel
        have hBl : B.length ≤ 8 * l.length := by
          have := congrArg List.length (unhide HR)
          simp only [List.length_append] at this
          omega
        rcases n with _ | n
        · have HR2 : Hid (B ++ bits8 (l.drop (k + 1)) = bits8 l) := by
            show _ = _
            have := unhide HR
            simpa [bl] using this
          clear HR
          have h0 : ((0 : Nat) : Int) - 1 = -1 := by omega
          rw [h0]
          go_wp2
          go_roundw
          case rel => exact ⟨k + 1, a', cap', B, by omega, by go_num, rfl, HR2, ho, hb⟩
          case measure => simp [intOf]; omega
        · have hn1 : ((n + 1 : Nat) : Int) - 1 = (n : Int) := by omega
          rw [hn1]
          have hbs := hb.size
          obtain ⟨Y, hY⟩ : ∃ Y : Nat, Y = X / 2 ^ n := ⟨_, rfl⟩
          have hYi : (X : Int) / 2 ^ n = (Y : Int) := by rw [hY]; simp
          obtain ⟨M, hM⟩ : ∃ M : Nat, M = Y % 2 := ⟨_, rfl⟩
          have hM1 : (Y : Int).tmod 2 = (M : Int) := by rw [hM]; exact tmodn Y 2
          have hM2 : (Y : Int) % 2 = (M : Int) := by rw [hM]; simp
          have HR2 : Hid (B ++ [M] ++ bl X n ++ bits8 (l.drop (k + 1)) = bits8 l) := by
            show _ = _
            rw [← unhide HR, hM, hY]
            simp [bl]
          clear HR hY hM
          go_wp2_with (at_builtin; refine wp_appi _ rfl _ _ rfl w.heap.size a' cap' B rfl (ho.alloc _) wr.heap.size 1 M rfl (cell_liti _ _ _ ?c1) ?c5 ?c6 ?_)
          case c1 => first | rfl | assumption | omega
          case c5 => omega
          case c6 => simp; omega
          intro a2 cap2 B2 w5 hr2 ho5 hg5
          have hb5 : Below w.heap.size w w5 := below_grown (hb.alloc hb.size _) hg5 (Nat.le_refl _) (fun k hk => (ho.lt k hk).1)
          have HR5 : Hid (B2 ++ bl X n ++ bits8 (l.drop (k + 1)) = bits8 l) := by
            show _ = _
            rw [unhide hr2, ← unhide HR2]
          clear hr2 hg5 ho hb HR2
          go_wp2
          go_roundw
          case rel => exact ⟨n, a2, cap2, B2, by omega, by go_num, rfl, HR5, ho5, hb5⟩
          case measure => simp [intOf]
    · obtain rfl : k = l.length := by omega
      have HE : Hid (B = bits8 l) := by
        show _ = _
        have := unhide HR
        rw [List.drop_length] at this
        simpa [bits8] using this
      have HG : Hid (gq B = unp l) := by show _ = _; rw [unhide HE]; exact gq_bits l
      have HO : Hid (∀ y ∈ B, y ≤ 1) := by show ∀ y ∈ B, y ≤ 1; rw [unhide HE]; exact bits8_le l
      obtain ⟨G, hG⟩ : ∃ G : Nat, G = (B.length + 5) / 6 := ⟨_, rfl⟩
      have hGl : G ≤ 200000 := by omega
      clear HR HE
      go_wp2
      go_loopw [3] (fun v wr => ∃ (a' : Option Addr) (cap' : Nat) (B : List Nat), v = .slice a' B.length cap' ∧ Hid (gq B = unp l) ∧ Hid (∀ y ∈ B, y ≤ 1) ∧ G = (B.length + 5) / 6 ∧ OwnI wr w.heap.size a' cap' B ∧ Below w.heap.size w wr) (fun v _ => (6 - slen v % 6) % 6)
      case atStart => exact ⟨a', cap', B, rfl, HG, HO, hG, ho, hb⟩
      case round =>
        clear HG HO hG ho hb hBl
        obtain ⟨a', cap', B, rfl, HG, HO, hG, ho, hb⟩ := hrel
        obtain ⟨M, hM⟩ : ∃ M : Nat, M = B.length % 6 := ⟨_, rfl⟩
        have hM1 : (B.length : Int).tmod 6 = (M : Int) := by rw [hM]; exact tmodn _ 6
        have hM2 : (B.length : Int) % 6 = (M : Int) := by rw [hM]; simp
        have hBl : B.length ≤ 1200000 := by omega
        have hbs := hb.size
        by_cases hM0 : M = 0
        · subst hM0
          have HM := hide hM
          clear hM
          go_wp2
          go_loopw [7, 8] (fun v i wr => ∃ (j : Nat) (r : List UInt8), j ≤ B.length ∧ Hid (j % 6 = 0) ∧ i = .int .i64 (j : Int) ∧ v = .string (str r) ∧ r.length ≤ j ∧ Hid (r ++ gq (B.drop j) = unp l) ∧ OwnI wr w.heap.size a' cap' B ∧ Below w.heap.size w wr) (fun _ i _ => B.length - (intOf i).toNat)
          case atStart => exact ⟨0, [], Nat.zero_le _, rfl, rfl, rfl, Nat.le_refl _, HG, ho, hb⟩
          case round =>
            clear ho hb HG hbs
            obtain ⟨j, r, hj, Hj, rfl, rfl, hrj, HR, ho, hb⟩ := hrel
            by_cases hjl : j < B.length
            · have hj6 : j + 6 ≤ B.length := by have := unhide HM; have := unhide Hj; omega
              obtain ⟨g, rfl, hg0, hg1, hgc⟩ := ho.some (by omega)
              have HO' : ∀ y ∈ B.drop j, y ≤ 1 := fun y hy => unhide HO y (List.mem_of_mem_drop hy)
              have HV := hide (vk_lt (B.drop j) HO')
              clear HO'
              have Hgc := hide hgc
              clear hgc
              go_wp2
              go_loop [9, 43] (fun v i => ∃ k : Nat, k ≤ 6 ∧ i = .int .i64 (k : Int) ∧ v = .int .i64 ((vk (B.drop j) k : Nat) : Int)) (fun _ i => 6 - (intOf i).toNat)
              case atStart => exact ⟨0, Nat.zero_le _, rfl, rfl⟩
              case round =>
                obtain ⟨k, hk, rfl, rfl⟩ := hrel
                by_cases hk6 : k < 6
                · have hc := unhide Hgc (j + k) (by omega)
                  obtain ⟨J, hJ⟩ : ∃ J : Nat, J = j + k := ⟨_, rfl⟩
                  have hJi : (j : Int) + (k : Int) = (J : Int) := by omega
                  have hJl : J < B.length := by omega
                  have hJl2 : (J : Int) < (B.length : Int) := by omega
                  have HS : Hid (vk (B.drop j) (k + 1) = 2 * vk (B.drop j) k + B.getD J 0) := by
                    show _ = _
                    rw [vk, hJ]
                    simp [List.getElem?_drop]
                  rw [← hJ] at hc
                  have hv1 : vk (B.drop j) k < 64 := Nat.lt_of_lt_of_le (unhide HV k) (Nat.pow_le_pow_right (show 0 < 2 by decide) hk)
                  have hv2 : B.getD J 0 ≤ 1 := by
                    have : B.getD J 0 = B[J] := by simp [hJl]
                    rw [this]
                    exact unhide HO _ (List.getElem_mem _)
                  generalize B.getD J 0 = D at *
                  generalize vk (B.drop j) k = V at *
                  clear hJ
                  go_wp2
                  go_round
                  case rel => exact ⟨k + 1, by omega, by go_num, by rw [unhide HS]; go_num⟩
                  case measure => simp [intOf]; omega
                · obtain rfl : k = 6 := by omega
                  have HX : Hid (vk (B.drop j) 6 < 64) := unhide HV 6
                  have HR2 : Hid (r ++ [l6 (vk (B.drop j) 6)] ++ gq (B.drop (j + 6)) = unp l) := by
                    show _ = _
                    rw [← unhide HR, gq_cons (B.drop j) (by simp; omega), List.drop_drop]
                    simp
                  clear HR HV Hgc
                  generalize vk (B.drop j) 6 = X at *
                  have hX64 : X < 64 := unhide HX
                  have hcut := fun wx => run_cut6 wx X (unhide HX)
                  have hadd := fun wx => run_add_str wx r [l6 X] (by omega) (by simp)
                  have HR5 : Hid ((r ++ [l6 X]) ++ gq (B.drop (j + 6)) = unp l) := HR2
                  have hrl : (r ++ [l6 X]).length ≤ j + 6 := by simp; omega
                  have Hj6 : Hid ((j + 6) % 6 = 0) := by show _ = _; have := unhide Hj; omega
                  clear HR2
                  go_wp2
                  go_roundw
                  case rel => exact ⟨j + 6, r ++ [l6 X], by omega, Hj6, by go_num, rfl, hrl, HR5, ho, hb⟩
                  case measure => simp [intOf]; omega
            · obtain rfl : j = B.length := by omega
              have HE : Hid (fil r = b64 l) := by
                have := unhide HR
                rw [List.drop_length, gq_nil, List.append_nil] at this
                show _ = _
                rw [this, fil_unp]
              have hrb : r.length ≤ 2000000 := by omega
              clear HR
              go_wp2
              go_loopw [7] (fun v wr => ∃ (r : List UInt8), v = .string (str r) ∧ Hid (fil r = b64 l) ∧ Below w.heap.size w wr) (fun v _ => (4 - vlen v % 4) % 4)
              case atStart => exact ⟨r, rfl, HE, hb⟩
              case round =>
                clear HE hb ho hrb hrj
                obtain ⟨r, rfl, HE, hb⟩ := hrel
                have hrl : r.length ≤ 200000 := by
                  have h1 := congrArg List.length (unhide HE)
                  rw [b64_length] at h1
                  unfold fil at h1
                  rw [List.length_append] at h1
                  omega
                obtain ⟨M, hM⟩ : ∃ M : Nat, M = r.length % 4 := ⟨_, rfl⟩
                have hM1 : (r.length : Int).tmod 4 = (M : Int) := by rw [hM]; exact tmodn _ 4
                have hM2 : (r.length : Int) % 4 = (M : Int) := by rw [hM]; simp
                have hsz := str_size r
                by_cases hM0 : M = 0
                · subst hM0
                  have HR : Hid (r = b64 l) := by show _ = _; rw [← unhide HE, fil_done r hM.symm]
                  clear hM
                  go_wp2
                  go_ret
                  exact ⟨by rw [← unhide HR]; rfl, hb⟩
                · have hMne : ((M : Int) != 0) = true := by simp; omega
                  have hadd := fun wx => run_add_str wx r [61] (by omega) (by simp)
                  have HE2 : Hid (fil (r ++ [61]) = b64 l) := by show _ = _; rw [fil_step r (by omega)]; exact unhide HE
                  have HM := hide hM
                  clear hM HE
                  go_wp2
                  go_roundw
                  case rel => exact ⟨r ++ [61], rfl, HE2, hb⟩
                  case measure => have := unhide HM; have hs61 : (ByteArray.mk #[61]).size = 1 := rfl; simp [vlen, str_size, hs61]; omega
        · have HG2 : Hid (gq (B ++ [0]) = unp l) := by show _ = _; rw [gq_snoc _ B (Nat.le_refl _) (by omega)]; exact unhide HG
          have HO2 : Hid (∀ y ∈ B ++ [0], y ≤ 1) := by
            intro y hy
            rcases List.mem_append.1 hy with h | h
            · exact unhide HO y h
            · simp at h; omega
          have HM := hide hM
          have hMne : ((M : Int) != 0) = true := by simp; omega
          clear hM HG HO
          go_wp2_with (at_builtin; refine wp_appi _ rfl _ _ rfl w.heap.size a' cap' B rfl (ho.alloc _) wr.heap.size 1 0 rfl (cell_liti _ _ _ rfl) ?c5 ?c6 ?_)
          case c5 => omega
          case c6 => simp; omega
          intro a2 cap2 B2 w5 hr2 ho5 hg5
          have hb5 : Below w.heap.size w w5 := below_grown (hb.alloc hb.size _) hg5 (Nat.le_refl _) (fun k hk => (ho.lt k hk).1)
          have hB2 := unhide hr2
          subst hB2
          clear hr2 hg5 ho hb
          go_wp2
          go_roundw
          case rel => exact ⟨a2, cap2, B ++ [0], rfl, HG2, HO2, by have := unhide HM; simp; omega, ho5, hb5⟩
          case measure => have := unhide HM; simp [slen]; omega
#print axioms rb64_any
end Go.Proofs.YtegbcjfceooflaaDoor
end
