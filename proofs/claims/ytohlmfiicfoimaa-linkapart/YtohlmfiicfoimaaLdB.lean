/-
  link: THE WALK of does, a call on both nets.
-/
import Derived.Test.YtohlmfiicfoimaaLdA
import Derived.Deep.DeepCutAuto
import Derived.Deep.RegionHeld3
import Derived.Laws.BitsAllLaws
set_option linter.unusedVariables false
set_option maxRecDepth 100000
namespace Go.Proofs.Ytohlmfiicfoimaa
open Go.RowKit Go.Maps

/-- What a call makes of a net. -/
def stM (M : Nm) (d : Dl) : Nm :=
  match (d.o % 8).toNat with
  | 0 => diM M d.a d.b
  | 1 => sdM M d.i d.a d.l
  | 2 => sdM M d.i d.a d.l
  | 3 => crM M d.i d.a d.b
  | 4 => crM M d.i d.a d.b
  | 5 => clM M d.i d.a
  | 6 => cuM M d.i
  | _ => drM M d.a
theorem op8e (o : Int) : wrap64 ((IntKind.u64.wrap o).tmod 8) = ((o % 8).toNat : Int) ∧ (o % 8).toNat < 8 := by
  have e : IntKind.u64.wrap o = o % 18446744073709551616 := by simp [IntKind.wrap, IntKind.bits, IntKind.signed]
  have h0 : 0 ≤ o % 18446744073709551616 := Int.emod_nonneg _ (by omega)
  have e2 : (o % 18446744073709551616).tmod 8 = o % 18446744073709551616 % 8 := Int.tmod_eq_emod_of_nonneg h0
  refine ⟨?_, by omega⟩
  rw [e, e2]
  have e3 : o % 18446744073709551616 % 8 = o % 8 := by omega
  rw [e3, IntWalk.wrap64_in _ (by omega)]
  omega
theorem u8xn (a b : UInt8) : bits .xor .u8 (a.toNat : Int) (b.toNat : Int) = ((a ^^^ b).toNat : Int) := by
  rw [u8_xor_nat _ _ a.toNat_lt b.toNat_lt, UInt8.toNat_xor]
theorem own_storedn {w : World} {base g cap : Nat} {l : List UInt8} (h : OwnB w base (some ⟨g, 0, none⟩) cap l) (j : Nat) (c : UInt8) : OwnB (w.setCell ⟨g, j, none⟩ (.int .u8 (c.toNat : Int))) base (some ⟨g, 0, none⟩) cap (l.set j c) := by
  have := World.ownsRow.stored h j (.int .u8 (c.toNat : Int))
  unfold OwnB
  rw [List.length_set]
  have e : bs (l.set j c) = (bs l).set j (.int .u8 (c.toNat : Int)) := by simp [bs, List.map_set]
  rw [e]
  exact this.1
theorem OwnB.zs {w w' : World} {base : Nat} {a : Option Addr} {cap : Nat} {l : List UInt8} {Z : Nat → Prop} (h : OwnB w base a cap l) (hz : ZS w w' Z) (hb : ∀ g, blk a = Option.some g → Z g) : OwnB w' base a cap l := by
  refine ⟨h.1, ?_⟩
  rcases h.2 with hn | ⟨g, cap, cur, hv, hbb, hgg, rest⟩
  · exact .inl hn
  · refine .inr ⟨g, cap, cur, hv, hbb, ?_, rest⟩
    have e : blk a = Option.some g := by simp only [Value.slice.injEq] at hv; rw [hv.1]; rfl
    rw [hz.2 g (hb g e)]
    exact hgg
theorem ZS.trans {w w1 w2 : World} {Z : Nat → Prop} (h : ZS w w1 Z) (k : ZS w1 w2 Z) : ZS w w2 Z := ⟨Nat.le_trans h.1 k.1, fun b hb => (k.2 b hb).trans (h.2 b hb)⟩
theorem ZS.of {w0 w w' : World} {N bm X : Nat} {Mp Mr : Nm} {T : Nat} {Z : Nat → Prop} (h : NQ w0 w N bm X Mp Mr T Z) (hb : Below w.heap.size w w') : ZS w w' Z := ⟨hb.size, fun b hz => hb.block b (h.zlt hz).2⟩
theorem ZS.sub {w w' : World} {Z Z' : Nat → Prop} (h : ZS w w' Z) (hz : ∀ b, Z' b → Z b) : ZS w w' Z' := ⟨h.1, fun b hb => h.2 b (hz b hb)⟩

/-- What is known in does, behind the copy of the bytes: the box of the call, the copy, both nets. -/
structure DK (w0 w v : World) (B N bm X : Nat) (Mp Mr : Nm) (T : Nat) (Z : Nat → Prop) (d : Dl) (x : Option Addr) (c : Nat) (y : Option Addr) (cy : Nat) (q : List UInt8) : Prop where
  nq : NQ w0 v N bm X Mp Mr T (fun b => Z b ∨ b = B ∨ blk y = some b)
  box : v.heap[B]? = some (.cells #[.int .i64 d.o, .int .i64 d.i, .int .i64 d.a, .int .i64 d.b, .slice x d.l.length c] 33 (0, 0))
  row : OwnB v w.heap.size y cy q
  ge : w.heap.size ≤ B
  ne : blk y ≠ some B
  zs : ZS w v Z
theorem DK.cells {w0 w v : World} {B N bm X : Nat} {Mp Mr : Nm} {T : Nat} {Z : Nat → Prop} {d : Dl} {x : Option Addr} {c : Nat} {y : Option Addr} {cy : Nat} {q : List UInt8} (h : DK w0 w v B N bm X Mp Mr T Z d x c y cy q) :
    v.cell? ⟨B, 0, none⟩ = some (.int .i64 d.o) ∧ v.cell? ⟨B, 1, none⟩ = some (.int .i64 d.i) ∧ v.cell? ⟨B, 2, none⟩ = some (.int .i64 d.a) ∧ v.cell? ⟨B, 3, none⟩ = some (.int .i64 d.b) ∧ v.cell? ⟨B, 4, none⟩ = some (.slice x d.l.length c) := by
  refine ⟨?_, ?_, ?_, ?_, ?_⟩ <;> (rw [cell_of_row v B _ _ _ _ h.box]; rfl)
theorem DK.move {w0 w v v' : World} {B N bm X : Nat} {Mp Mr Mp' Mr' : Nm} {T T' : Nat} {Z : Nat → Prop} {d : Dl} {x : Option Addr} {c : Nat} {y : Option Addr} {cy : Nat} {q : List UInt8} (h : DK w0 w v B N bm X Mp Mr T Z d x c y cy q) (hq : NQ w0 v' N bm X Mp' Mr' T' (fun b => Z b ∨ b = B ∨ blk y = some b)) (hz : ZS v v' (fun b => Z b ∨ b = B ∨ blk y = some b)) : DK w0 w v' B N bm X Mp' Mr' T' Z d x c y cy q :=
  ⟨hq, (hz.2 B (.inr (.inl rfl))).trans h.box, h.row.zs hz (fun g hg => .inr (.inr hg)), h.ge, h.ne, h.zs.trans (hz.sub (fun b hb => .inl hb))⟩
theorem DK.below {w0 w v v' : World} {B N bm X : Nat} {Mp Mr : Nm} {T : Nat} {Z : Nat → Prop} {d : Dl} {x : Option Addr} {c : Nat} {y : Option Addr} {cy : Nat} {q : List UInt8} (h : DK w0 w v B N bm X Mp Mr T Z d x c y cy q) (hb : Below v.heap.size v v') : DK w0 w v' B N bm X Mp Mr T Z d x c y cy q := h.move (h.nq.below hb) (ZS.of h.nq hb)
theorem DK.end {w0 w v : World} {B N bm X : Nat} {Mp Mr : Nm} {T : Nat} {Z : Nat → Prop} {d : Dl} {x : Option Addr} {c : Nat} {y : Option Addr} {cy : Nat} {q : List UInt8} (h : DK w0 w v B N bm X Mp Mr T Z d x c y cy q) : NQ w0 v N bm X Mp Mr T Z := h.nq.sub (fun b hb => .inl hb)
/-- One byte of the copy is written. -/
theorem DK.store {w0 w v : World} {B N bm X g : Nat} {Mp Mr : Nm} {T : Nat} {Z : Nat → Prop} {d : Dl} {x : Option Addr} {c : Nat} {cy : Nat} {q : List UInt8} (h : DK w0 w v B N bm X Mp Mr T Z d x c (some ⟨g, 0, none⟩) cy q) (hZ : ∀ b, Z b → b < w.heap.size) (j : Nat) (u : UInt8) : DK w0 w (v.setCell ⟨g, j, none⟩ (.int .u8 (u.toNat : Int))) B N bm X Mp Mr T Z d x c (some ⟨g, 0, none⟩) cy (q.set j u) := by
  have hgr := gset' v ⟨g, j, none⟩ (.int .u8 (u.toNat : Int))
  have hgB : g ≠ B := fun e => h.ne (by rw [e]; rfl)
  have hBl : B < v.heap.size := (Array.getElem?_eq_some_iff.1 h.box).1
  have hgl := h.row.lt g rfl
  refine ⟨h.nq.set (p := ⟨g, j, none⟩) (.inr (.inr rfl)) _, (hgr.block B hBl (by simp; exact fun e => hgB e.symm)).trans h.box, own_storedn h.row j u, h.ge, h.ne, ?_⟩
  refine h.zs.trans ⟨hgr.size, fun b hb => hgr.block b ?_ ?_⟩
  · have := hZ b hb; have := h.zs.1; omega
  · simp; have := hZ b hb; omega

end Go.Proofs.Ytohlmfiicfoimaa
