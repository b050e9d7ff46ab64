/-
  authtok: THE WALKS of signed and Read.
-/
import Derived.Test.YtoapkajlgnlecaaDoorAutF
import Derived.Test.YtoapkajlgnlecaaDoorSamL
import Derived.Lib.ConvBytes
set_option linter.unusedVariables false
set_option maxRecDepth 1000000
namespace Go.Proofs.YtoapkajlgnlecaaDoor
open Go.RowKit

theorem fi_some : ∀ (L : List Sec) (id : Int) (i : Nat) (s : Sec), L[i]? = some s → s.1 = id → (∀ j t, j < i → L[j]? = some t → t.1 ≠ id) → L.findIdx? (fun k => k.1 == id) = some i
  | [], _, i, s, h, _, _ => by simp at h
  | t :: r, id, 0, s, h, hs, _ => by
    simp at h
    subst h
    simp [List.findIdx?_cons, hs]
  | t :: r, id, i + 1, s, h, hs, hn => by
    have h0 := hn 0 t (by omega) rfl
    have hne : (t.1 == id) = false := by simp [h0]
    rw [List.findIdx?_cons, hne, fi_some r id i s (by simpa using h) hs (fun j u hj hu => hn (j + 1) u (by omega) (by simpa using hu))]
    rfl
theorem fi_none (L : List Sec) (id : Int) (h : ∀ (j : Nat) (t : Sec), L[j]? = some t → t.1 ≠ id) : L.findIdx? (fun k => k.1 == id) = none := by
  rw [List.findIdx?_eq_none_iff]
  intro x hx
  obtain ⟨j, hj⟩ := List.getElem?_of_mem hx
  have := h j x hj
  simp [this]

set_option maxHeartbeats 1000000 in
theorem sid_any (B : Nat) (k id : Int) (x : Option Addr) (n c : Nat) (w : World) (h : w.cell? ⟨B, 0, none⟩ = some (.int .i64 id)) :
    Calls Tryd.prog 37 #[.agg #[.int .i64 k, .slice x n c], .pointer (some ⟨B, 0, none⟩)] w fun e w' => e = .returned (.bool (k == id)) ∧ Hid (Below w.heap.size w w') := by
  have hlt : B < w.heap.size := World.block_lt_of_cell? w _ h
  have hne : B ≠ w.heap.size := by omega
  go_enter Tryd.func37, Tryd.ntmps37
  go_wp2
  go_ret
  exact ⟨rfl, (Below.refl _ _).alloc (Nat.le_refl _) _⟩

set_option maxHeartbeats 4000000 in
theorem index_any (p : Option Addr) (cp : Nat) (L : List Sec) (B : Nat) (id : Int) (w : World) (h : SecR w p L) (hl : L.length ≤ 140737488355328) (hB : w.cell? ⟨B, 0, none⟩ = some (.int .i64 id)) :
    Calls Tryd.prog 36 #[.slice p L.length cp, .func (.func 37) #[] #[.pointer (some ⟨B, 0, none⟩)]] w fun e w' => ∃ r : Int, e = .returned (.int .i64 r) ∧ Hid (Below w.heap.size w w') ∧ ((r = -1 ∧ Hid (L.findIdx? (fun k => k.1 == id) = none)) ∨ ∃ i : Nat, r = (i : Int) ∧ i < L.length ∧ Hid (L.findIdx? (fun k => k.1 == id) = some i)) := by
  have HS := hide h
  have HB := hide hB
  clear h hB
  go_enter Tryd.func36, Tryd.ntmps36
  go_wp2
  go_loopw [8] (fun v wr => ∃ i : Nat, i ≤ L.length ∧ v = .int .i64 (i : Int) ∧ Hid (∀ j t, j < i → L[j]? = some t → t.1 ≠ id) ∧ Hid (Below w.heap.size w wr)) (fun v _ => L.length - (intOf v).toNat)
  case atStart => exact ⟨0, Nat.zero_le _, rfl, (fun j t hj => by omega), Below.refl _ _⟩
  case round =>
    obtain ⟨i, hi, rfl, hno, hb⟩ := hrel
    by_cases hlt : i < L.length
    · obtain ⟨s, hs⟩ : ∃ s, L[i]? = some s := ⟨_, List.getElem?_eq_getElem hlt⟩
      obtain ⟨b, off, x, cx, rfl, c0, c1, hBs, hbl⟩ := (HS.out.below hb.out (Nat.le_refl _)).at hs
      have HSS := hide hs
      have HBr : Hid (wr.cell? ⟨B, 0, none⟩ = some (.int .i64 id)) := by
        show _ = _
        rw [hb.out.cell (World.block_lt_of_cell? w _ HB.out)]
        exact HB.out
      have hi2 : (i : Int) < (L.length : Int) := by omega
      obtain ⟨k, bt⟩ := s
      simp only at c0 c1
      clear hs hBs
      by_cases hk : k = id
      · have HF : Hid (L.findIdx? (fun k => k.1 == id) = some i) := fi_some L id i (k, bt) HSS.out hk hno.out
        have hkb : (k == id) = true := by simp [hk]
        have HKB := hide hkb
        clear hk hkb
        go_wp2_with (go_at_call 37; refine (sid_any B k id x bt.length cx wr HBr.out).mono ?_; rintro e w2 ⟨rfl, hb2⟩; rw [HKB.out])
        go_ret
        exact ⟨(i : Int), rfl, hb.out.trans (hb2.out.mono hb.out.size), .inr ⟨i, rfl, hlt, HF⟩⟩
      · have hkb : (k == id) = false := by simp [hk]
        have HKB := hide hkb
        have HK := hide hk
        clear hk hkb
        go_wp2_with (go_at_call 37; refine (sid_any B k id x bt.length cx wr HBr.out).mono ?_; rintro e w2 ⟨rfl, hb2⟩; rw [HKB.out])
        go_roundw
        case rel =>
          refine ⟨i + 1, by omega, by go_num, ?_, hb.out.trans (hb2.out.mono hb.out.size)⟩
          intro j t hj ht
          rcases Nat.lt_or_ge j i with h | h
          · exact hno.out j t h ht
          · obtain rfl : j = i := by omega
            rw [HSS.out] at ht
            rw [← Option.some.inj ht]
            exact HK.out
        case measure => simp [intOf]; omega
    · obtain rfl : i = L.length := by omega
      have HF : Hid (L.findIdx? (fun k => k.1 == id) = none) := fi_none L id (fun j t ht => hno.out j t (List.getElem?_eq_some_iff.1 ht).1 ht)
      go_wp2
      go_ret
      exact ⟨-1, rfl, hb, .inl ⟨rfl, HF⟩⟩
#print axioms index_any
end Go.Proofs.YtoapkajlgnlecaaDoor
