/-
  copy INTO AN ARRAY OF ONE's OWN; how the number of bits is laid into the last block.
-/
import Derived.Test.YtoapkajlgnlecaaDoorShaF
import Derived.Laws.CopyOwn
set_option linter.unusedVariables false
namespace Go.Proofs.YtoapkajlgnlecaaDoor
open Go.RowKit

/-- copy(last[:], b), last an array in a block of its own. -/
theorem wpL_copy {ops : Array Oper} {rest : List Oper} {o : Oper} {a : Act} {w : World} {Q : Exit → Act → World → Prop} (hgd : o.guard = none) (d s : Operand)
    (ho : o.op = .call { callee := .builtin .copy, args := #[d, s], argTypes := #[23, 23] })
    (C n cap : Nat) (hd : a.eval d = .slice (some ⟨C, 0, none⟩) n cap) (a2 : Option Addr) (cap2 k : Nat) (l : List UInt8) (hs : a.eval s = .slice a2 k cap2) (hk : k = l.length)
    (t : TypeId) (old : List UInt8) (hc : Cel w C t (bs old)) (hn : old.length = n) (hl : l.length ≤ n) (hrow : Row w a2 l)
    (h : ∀ w', Cel w' C t (bs (l ++ old.drop l.length)) → w.grownBy w' (some C) → wpList Tryd.prog ops Q rest (a.put o.dst (.int .i64 (l.length : Int))) w') : wpList Tryd.prog ops Q (o :: rest) a w := by
  subst hk
  have hsz : (Tryd.prog.info? 5).map (·.size) = some 1 := by kernel_rfl
  by_cases h0 : l = []
  · subst h0
    refine wpList_copy_nothing hgd d s _ _ ho 5 Tryd.underlying23 hsz _ _ _ _ _ _ hd hs (by simp) ?_
    exact h w (by simpa using hc) ⟨rfl, rfl, rfl, Nat.le_refl _, fun _ _ _ => rfl⟩
  · obtain ⟨b, off, rfl, hcell⟩ := hrow h0
    refine wpList_copy_own hgd d s _ _ ho 5 Tryd.underlying23 hsz C 0 n cap ⟨b, off, none⟩ l.length cap2 hd hs (bs old).toArray t hc (bs l) (by rw [bs_length]; exact (Nat.min_eq_left hl).symm) ?_ (by simp [bs_length]; omega) (bs_one l) ?_
    · intro j v hv
      have hj : j < l.length := by
        have := (List.getElem?_eq_some_iff.1 hv).1
        simpa [bs_length] using this
      rw [bs_get l j hj] at hv
      obtain rfl := Option.some.inj hv
      rw [addr_add]
      exact hcell j hj
    · have e : (goInt (bs l).length) = .int .i64 (l.length : Int) := by rw [bs_length]; rfl
      rw [e]
      have e2 : ((bs old).toArray.toList.take 0 ++ (bs l ++ (bs old).toArray.toList.drop (0 + (bs l).length))) = bs (l ++ old.drop l.length) := by
        simp [bs, List.map_drop]
      rw [e2]
      exact h _ (hc.setRow _) (setRow_grown w C _)

def slen : Value → Nat
  | .slice _ n _ => n
  | _ => 0
/-- The bits' number, byte by byte from the end. -/
def cw (n : Nat) (b : List UInt8) : Nat → List UInt8
  | 0 => b
  | i + 1 => (cw n b i).set (63 - i) (UInt8.ofNat (n / 2 ^ (8 * i)))
theorem cw_length (n : Nat) (b : List UInt8) : ∀ i, (cw n b i).length = b.length
  | 0 => rfl
  | i + 1 => by simp [cw, cw_length n b i]
theorem cw_all (n : Nat) (p : List UInt8) (hp : p.length = 56) : cw n (p ++ noughts 8) 8 = p ++ cnt8 n := by
  have e : ∀ (q : List UInt8) (i : Nat) (x : UInt8), i < 8 → (p ++ q).set (56 + i) x = p ++ q.set i x := by
    intro q i x hi
    rw [List.set_append_right _ _ (by omega)]
    congr 2
    omega
  have e' : ∀ (q : List UInt8) (k i : Nat) (x : UInt8), i < 8 → k = 56 + i → (p ++ q).set k x = p ++ q.set i x := by
    intro q k i x hi hk
    subst hk
    exact e q i x hi
  simp only [cw]
  rw [e' _ 63 7 _ (by omega) rfl, e' _ (63 - 1) 6 _ (by omega) rfl, e' _ (63 - 2) 5 _ (by omega) rfl, e' _ (63 - 3) 4 _ (by omega) rfl, e' _ (63 - 4) 3 _ (by omega) rfl, e' _ (63 - 5) 2 _ (by omega) rfl, e' _ (63 - 6) 1 _ (by omega) rfl, e' _ (63 - 7) 0 _ (by omega) rfl]
  simp [noughts, List.replicate, cnt8]
theorem by_shr (n i : Nat) : (((n : Int) / 2 ^ (8 * i)) % 256 : Int) = ((UInt8.ofNat (n / 2 ^ (8 * i))).toNat : Int) := by
  simp

/-- The block that the last bytes, a bit and noughts make. -/
def lst1 (r : List UInt8) : List UInt8 := (r ++ (noughts 64).drop r.length).set r.length 128
theorem lst1_length (r : List UInt8) (h : r.length < 64) : (lst1 r).length = 64 := by simp [lst1, noughts]; omega
theorem lst1_eq (r : List UInt8) (h : r.length < 64) : lst1 r = r ++ 128 :: noughts (63 - r.length) := by
  unfold lst1
  rw [List.set_append_right _ _ (Nat.le_refl _), Nat.sub_self]
  have e : (noughts 64).drop r.length = noughts (64 - r.length) := by unfold noughts; exact List.drop_replicate
  have e2 : noughts (64 - r.length) = 0 :: noughts (63 - r.length) := by
    unfold noughts
    rw [← List.replicate_succ]
    congr 1
    omega
  rw [e, e2]
  rfl
theorem ends_long (n : Nat) (r : List UInt8) (h : 56 ≤ r.length) (h2 : r.length < 64) : ends n r = [lst1 r, cw n (noughts 64) 8] := by
  rw [ends, if_pos h, lst1_eq r h2]
  have : noughts 64 = noughts 56 ++ noughts 8 := by decide
  rw [this, cw_all n _ (by decide)]
theorem ends_short (n : Nat) (r : List UInt8) (h : r.length < 56) : ends n r = [cw n (lst1 r) 8] := by
  rw [ends, if_neg (by omega), lst1_eq r (by omega)]
  have e : noughts (63 - r.length) = noughts (55 - r.length) ++ noughts 8 := by
    unfold noughts
    rw [List.replicate_append_replicate]
    congr 1
    omega
  have e2 : r ++ 128 :: noughts (63 - r.length) = (r ++ 128 :: noughts (55 - r.length)) ++ noughts 8 := by rw [e]; simp
  rw [e2, cw_all n _ (by simp [noughts]; omega)]
  simp
#print axioms ends_short
end Go.Proofs.YtoapkajlgnlecaaDoor
