/-
  THE WALK of digest's putWords.
-/
import Derived.Test.YtoapkajlgnlecaaDoorShaI
set_option linter.unusedVariables false
namespace Go.Proofs.YtoapkajlgnlecaaDoor
open Go.RowKit

/-- The first k words laid as bytes. -/
def pwl (l : List UInt32) (old : List UInt8) : Nat → List UInt8
  | 0 => old
  | k + 1 => ((((pwl l old k).set (4 * k) (UInt8.ofNat ((l.getD k 0).toNat / 16777216))).set (4 * k + 1) (UInt8.ofNat ((l.getD k 0).toNat / 65536))).set (4 * k + 2) (UInt8.ofNat ((l.getD k 0).toNat / 256))).set (4 * k + 3) (UInt8.ofNat (l.getD k 0).toNat)
theorem pwl_length (l : List UInt32) (old : List UInt8) : ∀ k, (pwl l old k).length = old.length
  | 0 => rfl
  | k + 1 => by simp [pwl, pwl_length l old k]
theorem pwl_eq (l : List UInt32) (old : List UInt8) (h : old.length = 4 * l.length) : ∀ k, k ≤ l.length → pwl l old k = byts (l.take k) ++ old.drop (4 * k)
  | 0, _ => by simp [pwl, byts]
  | k + 1, hk => by
    have ih := pwl_eq l old h k (by omega)
    have hb : (byts (l.take k)).length = 4 * k := by rw [byts_length]; simp; omega
    have hd : ∃ a b c d r, old.drop (4 * k) = a :: b :: c :: d :: r ∧ old.drop (4 * (k + 1)) = r := by
      have e1 := List.drop_eq_getElem_cons (l := old) (i := 4 * k) (by omega)
      have e2 := List.drop_eq_getElem_cons (l := old) (i := 4 * k + 1) (by omega)
      have e3 := List.drop_eq_getElem_cons (l := old) (i := 4 * k + 1 + 1) (by omega)
      have e4 := List.drop_eq_getElem_cons (l := old) (i := 4 * k + 1 + 1 + 1) (by omega)
      exact ⟨_, _, _, _, _, by rw [e1, e2, e3, e4], by congr 1⟩
    obtain ⟨a, b, c, d, r, h1, h2⟩ := hd
    have e : ∀ (q : List UInt8) (i j : Nat) (x : UInt8), j = 4 * k + i → (byts (l.take k) ++ q).set j x = byts (l.take k) ++ q.set i x := by
      intro q i j x hj
      subst hj
      rw [List.set_append_right _ _ (by omega)]
      congr 2
      omega
    have hx : l.getD k 0 = l[k] := by simp [show k < l.length by omega]
    have ht : byts (l.take (k + 1)) = byts (l.take k) ++ by4 l[k] := by
      rw [List.take_succ_eq_append_getElem (by omega), byts, byts, List.flatMap_append]
      simp
    rw [pwl, ih, h1, e _ 0 (4 * k) _ (by omega), e _ 1 _ _ rfl, e _ 2 _ _ rfl, e _ 3 _ _ rfl, ht, h2, hx]
    simp [by4]
theorem pwl_all (l : List UInt32) (old : List UInt8) (h : old.length = 4 * l.length) : pwl l old l.length = byts l := by
  rw [pwl_eq l old h _ (Nat.le_refl _)]
  simp [h]

set_option maxRecDepth 1000000 in
set_option maxHeartbeats 2000000 in
theorem pw_any (D S : Nat) (tD tS : TypeId) (l : List UInt32) (old : List UInt8) (n c1 c2 : Nat) (w : World) (hD : Cel w D tD (bs old)) (hS : Cel w S tS (us l)) (hne : D ≠ S) (ho : old.length = 4 * l.length) (hn : n = 4 * l.length) (hl : l.length ≤ 8) :
    Calls Tryd.prog 63 #[.slice (some ⟨D, 0, none⟩) n c1, .slice (some ⟨S, 0, none⟩) l.length c2] w
      fun e w' => e = .returned (.tuple #[]) ∧ Hid (Cel w' D tD (bs (byts l))) ∧ Hid (w.grownBy w' (some D)) := by
  have HD := hide hD
  have HS := hide hS
  have HO := hide ho
  have HNE := hide hne
  have HN := hide hn
  clear hD hS ho hne hn
  go_enter Tryd.func63, Tryd.ntmps63
  go_wp2
  go_loopw [8] (fun v wr => ∃ k : Nat, k ≤ l.length ∧ v = .int .i64 (k : Int) ∧ Hid (Cel wr D tD (bs (pwl l old k))) ∧ Hid (Cel wr S tS (us l)) ∧ Hid (w.grownBy wr (some D))) (fun v _ => l.length - (intOf v).toNat)
  case atStart => exact ⟨0, Nat.zero_le _, rfl, HD, HS, ⟨rfl, rfl, rfl, Nat.le_refl _, fun _ _ _ => rfl⟩⟩
  case round =>
    clear HD HS
    obtain ⟨k, hk, rfl, hD, hS, hg⟩ := hrel
    by_cases hlt : k < l.length
    · have hpl := pwl_length l old k
      have ho := HO.out
      have hn := HN.out
      have cx := hS.out.word k hlt
      have d0 := hD.out.byte (4 * k) (by omega)
      have d1 := hD.out.byte (4 * k + 1) (by omega)
      have d2 := hD.out.byte (4 * k + 2) (by omega)
      have d3 := hD.out.byte (4 * k + 3) (by omega)
      have f0 := hD.out.fr (4 * k)
      have f1 := hD.out.fr (4 * k + 1)
      have f2 := hD.out.fr (4 * k + 2)
      have f3 := hD.out.fr (4 * k + 3)
      have HX : Hid (pwl l old (k + 1) = ((((pwl l old k).set (4 * k) (UInt8.ofNat ((l.getD k 0).toNat / 16777216))).set (4 * k + 1) (UInt8.ofNat ((l.getD k 0).toNat / 65536))).set (4 * k + 2) (UInt8.ofNat ((l.getD k 0).toNat / 256))).set (4 * k + 3) (UInt8.ofNat (l.getD k 0).toNat)) := rfl
      generalize l.getD k 0 = x at *
      have hb : 4 * (k : Int) + 3 < (n : Int) := by omega
      clear hpl ho hn
      go_wp2
      go_roundw
      case rel =>
        refine ⟨k + 1, by omega, by go_num, ?_, (((hS.out.other _ _ (Ne.symm HNE.out)).other _ _ (Ne.symm HNE.out)).other _ _ (Ne.symm HNE.out)).other _ _ (Ne.symm HNE.out), cg_trans (cg_trans (cg_trans (cg_trans hg.out (cg_set _ ⟨D, 4 * k, none⟩ _)) (cg_set _ ⟨D, 4 * k + 1, none⟩ _)) (cg_set _ ⟨D, 4 * k + 2, none⟩ _)) (cg_set _ ⟨D, 4 * k + 3, none⟩ _)⟩
        rw [HX.out]
        exact (((hD.out.setB' (4 * k) _ _ (by simp)).setB' (4 * k + 1) _ _ (by simp)).setB' (4 * k + 2) _ _ (by simp)).setB' (4 * k + 3) _ _ (by simp)
      case measure => simp [intOf]; omega
    · obtain rfl : k = l.length := by omega
      go_wp2
      go_end0
      refine ⟨rfl, ?_, hg⟩
      rw [← pwl_all l old HO.out]
      exact hD
#print axioms pw_any
end Go.Proofs.YtoapkajlgnlecaaDoor
