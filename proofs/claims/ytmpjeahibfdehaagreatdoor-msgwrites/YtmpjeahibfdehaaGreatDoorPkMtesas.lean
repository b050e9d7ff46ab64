/-
  jsonx: errors.As of a fault.; jsonx: errors.As of a fault: the walk.; jsonx: Parse.; jsonx: the printer: put, full, comma.; jsonx: the printer: a text in quotes.; jsonx: texts that are whole characters; what holds items; true and false as texts.
-/
import Derived.Test.YtmpjeahibfdehaaGreatDoorPkMtesar
import Derived.LaidEql
import Derived.RowKitTokens
import Derived.Test.YtmpjeahibfdehaaGreatDoorPkMtesac
section
set_option linter.unusedVariables false
set_option maxRecDepth 1000000
namespace Go.Proofs.YtmpjeahibfdehaaGreatDoor
open Go.RowKit Go.Extern.Stop Go.Stop Go.Extern

theorem valueOf56 (t : Addr) (w : World) : (ReflectliteValue.unpack (.iface 66 (.pointer (some t)))).run Tryz.prog w
  = .ok (.agg #[.pointer (some ⟨7, 66, none⟩), .pointer (some ⟨w.heap.size, 0, none⟩), .int .u64 150]) (w.alloc (.cells #[.pointer (some t)] 66)) := by kernel_rfl
theorem type56 (a : Addr) (w : World) : (ReflectliteValue.methodAny (ReflectliteValue.valueError "reflectlite.Value.Type" 0) (fun t _ _ _ => ReflectliteType.toType t) #[.agg #[.pointer (some ⟨7, 66, none⟩), .pointer (some a), .int .u64 150]]).run Tryz.prog w
  = .ok (.iface 137 (.agg #[.pointer (some ⟨7, 66, none⟩)])) w := by kernel_rfl
theorem kind56 (w : World) : ((ReflectliteType.abiMethod fun t => (fun a : Nat => Value.int IntKind.u8 (a : Int)) <$> Rtype.kind t) #[.pointer (some ⟨7, 66, none⟩)]).run Tryz.prog w = .ok (.int .u8 22) w := by kernel_rfl
theorem kind54 (w : World) : ((ReflectliteType.abiMethod fun t => (fun a : Nat => Value.int IntKind.u8 (a : Int)) <$> Rtype.kind t) #[.pointer (some ⟨7, 64, none⟩)]).run Tryz.prog w = .ok (.int .u8 25) w := by kernel_rfl
theorem mm4.{u} (M : Array Value → Sort u) (v : Value) (h1 : ∀ v : Value, M #[v]) (h2 : ∀ a, M a) : ReflectliteValue.method.match_2 M #[v] h1 h2 = h1 v := rfl
theorem rlm4 (z : Sem Value) (f : TypeId → Addr → Nat → Nat → Sem Value) (v : Value) (P : Program) (W : World) (t : TypeId) (a : Addr) (n : Nat) (r : Result Value) (h : (ReflectliteValue.parts v).run P W = .ok (some (t, a, n)) W) (hr : (f t a n (n % 32)).run P W = r) :
  (ReflectliteValue.method z f #[v]).run P W = r := by
 delta ReflectliteValue.method
 rw [mm4]
 simp only [Sem.run_bind, h, Result.andThen, hr]
theorem parts56 (a : Addr) (w : World) : (ReflectliteValue.parts (.agg #[.pointer (some ⟨7, 66, none⟩), .pointer (some a), .int .u64 150])).run Tryz.prog w = .ok (some (66, a, 150)) w := by kernel_rfl
theorem isNil56 (a p : Addr) (W : World) (ha : W.cell? a = some (.pointer (some p))) :
  (ReflectliteValue.method (ReflectliteValue.valueError "reflectlite.Value.IsNil" 0) ReflectliteValue.isNil #[.agg #[.pointer (some ⟨7, 66, none⟩), .pointer (some a), .int .u64 150]]).run Tryz.prog W = .ok (.bool false) W := by
 refine rlm4 _ _ _ _ _ _ _ _ _ (parts56 _ _) ?_
 simp [ReflectliteValue.isNil, loadVar, isAgg, underlying, Tryz.underlying66, ha, Result.andThen]
theorem elem56 (w : World) : (ReflectliteType.method ReflectliteType.elem #[.agg #[.pointer (some ⟨7, 66, none⟩)]]).run Tryz.prog w = .ok (.iface 137 (.agg #[.pointer (some ⟨7, 64, none⟩)])) w := by kernel_rfl
theorem implements54 (w : World) : (ReflectliteType.relation "Implements" ReflectliteType.implements_ #[.agg #[.pointer (some ⟨7, 64, none⟩)], .iface 137 (.agg #[.pointer (some ⟨7, 60, none⟩)])]).run Tryz.prog w = .ok (.bool true) w := by kernel_rfl
theorem typeOf54 (v : Value) (w : World) : (ReflectliteType.typeOf #[.iface 64 v]).run Tryz.prog w = .ok (.iface 137 (.agg #[.pointer (some ⟨7, 64, none⟩)])) w := by kernel_rfl
theorem assignable54 (w : World) : (ReflectliteType.relation "AssignableTo" ReflectliteType.assignableTo #[.agg #[.pointer (some ⟨7, 64, none⟩)], .iface 137 (.agg #[.pointer (some ⟨7, 64, none⟩)])]).run Tryz.prog w = .ok (.bool true) w := by kernel_rfl
theorem valueOf54 (a y : Int) (w : World) : (ReflectliteValue.unpack (.iface 64 (.agg #[.int .i64 a, .int .i64 y]))).run Tryz.prog w
  = .ok (.agg #[.pointer (some ⟨7, 64, none⟩), .pointer (some ⟨w.heap.size, 0, none⟩), .int .u64 153]) (w.alloc (.cells #[.int .i64 a, .int .i64 y] 64)) := by kernel_rfl
theorem elemOf56 (w : World) : (Rtype.elem? 66).run Tryz.prog w = .ok (some 64) w := by kernel_rfl
theorem mk54 (p : Addr) (w : World) : (ReflectliteValue.mk 64 p ReflectliteValue.flagAddr).run Tryz.prog w = .ok (.agg #[.pointer (some ⟨7, 64, none⟩), .pointer (some p), .int .u64 409]) w := by kernel_rfl
theorem elemV56 (a p : Addr) (W : World) (ha : W.cell? a = some (.pointer (some p))) :
  (ReflectliteValue.method (ReflectliteValue.valueError "reflectlite.Value.Elem" 0) ReflectliteValue.elem #[.agg #[.pointer (some ⟨7, 66, none⟩), .pointer (some a), .int .u64 150]]).run Tryz.prog W
   = .ok (.agg #[.pointer (some ⟨7, 64, none⟩), .pointer (some p), .int .u64 409]) W := by
 refine rlm4 _ _ _ _ _ _ _ _ _ (parts56 _ _) ?_
 simp [ReflectliteValue.elem, loadVar, isAgg, underlying, Tryz.underlying66, ha, Result.andThen, elemOf56, mk54]
theorem sm4.{u} (M : Array Value → Sort u) (v x : Value) (h1 : ∀ v x : Value, M #[v, x]) (h2 : ∀ a, M a) : ReflectliteValue.set.match_3 M #[v, x] h1 h2 = h1 v x := rfl
theorem parts54a (a : Addr) (w : World) : (ReflectliteValue.parts (.agg #[.pointer (some ⟨7, 64, none⟩), .pointer (some a), .int .u64 409])).run Tryz.prog w = .ok (some (64, a, 409)) w := by kernel_rfl
theorem parts54 (a : Addr) (w : World) : (ReflectliteValue.parts (.agg #[.pointer (some ⟨7, 64, none⟩), .pointer (some a), .int .u64 153])).run Tryz.prog w = .ok (some (64, a, 153)) w := by kernel_rfl
theorem direct54 (w : World) : (Rtype.directlyAssignable 64 64).run Tryz.prog w = .ok true w := by kernel_rfl
theorem set54 (t b : Nat) (a y : Int) (o0 o1 : Value) (W : World) (hb0 : W.cell? ⟨b, 0, none⟩ = some (.int .i64 a)) (hb1 : W.cell? ⟨b, 1, none⟩ = some (.int .i64 y)) (h0 : W.cell? ⟨t, 0, none⟩ = some o0) (h1 : W.cell? ⟨t, 1, none⟩ = some o1) (hf : ∀ j, W.frozen? ⟨t, j, none⟩ = false) :
  (ReflectliteValue.set #[.agg #[.pointer (some ⟨7, 64, none⟩), .pointer (some ⟨t, 0, none⟩), .int .u64 409], .agg #[.pointer (some ⟨7, 64, none⟩), .pointer (some ⟨b, 0, none⟩), .int .u64 153]]).run Tryz.prog W
   = .ok (.tuple #[]) ((W.setCell ⟨t, 0, none⟩ (.int .i64 a)).setCell ⟨t, 1, none⟩ (.int .i64 y)) := by
 delta ReflectliteValue.set
 rw [sm4]
 simp only [Sem.run_bind, parts54a, parts54, Result.andThen]
 have hf0 := hf 0
 have hf1 := hf 1
 simp [ReflectliteValue.flagAddr, loadVar, isAgg, underlying, Tryz.underlying64, hb0, hb1, Result.andThen, direct54, storeVar, Value.cells, storeCells, Addr.add, go_sem, h0, h1, hf0, hf1]
end Go.Proofs.YtmpjeahibfdehaaGreatDoor
end
section
set_option linter.unusedVariables false
set_option maxRecDepth 1000000
namespace Go.Proofs.YtmpjeahibfdehaaGreatDoor
open Go.RowKit Go.Extern.Stop Go.Stop Go.Extern

set_option maxHeartbeats 8000000 in
theorem as_hit4 (t : Nat) (a y : Int) (o0 o1 : Value) (w : World) (hg : w.cell? ⟨0, 0, none⟩ = some (.iface 137 (.agg #[.pointer (some ⟨7, 60, none⟩)]))) (ht : w.heap[t]? = some (.cells #[o0, o1] 64 (0, 0))) :
  Calls Tryz.prog 33 #[.iface 64 (.agg #[.int .i64 a, .int .i64 y]), .iface 66 (.pointer (some ⟨t, 0, none⟩))] w fun ev w' => ev = .returned (.bool true) ∧ Hid (w'.heap[t]? = some (.cells #[.int .i64 a, .int .i64 y] 64 (0, 0))) ∧ Hid (w.grownBy w' (some t)) := by
 have h36 := @run_callFunc_extern Tryz.prog 76 _ (fun args => ReflectliteValue.unpack (args.getD 0 (.tuple #[]))) Tryz.func76 (by kernel_rfl) (by kernel_rfl) (by kernel_rfl) (by kernel_rfl)
 have h37 := @run_callFunc_extern Tryz.prog 77 _ (ReflectliteValue.methodAny (ReflectliteValue.valueError "reflectlite.Value.Type" 0) (fun t _ _ _ => ReflectliteType.toType t)) Tryz.func77 (by kernel_rfl) (by kernel_rfl) (by kernel_rfl) (by kernel_rfl)
 have h38 := @run_callFunc_extern Tryz.prog 78 _ (ReflectliteValue.method (ReflectliteValue.valueError "reflectlite.Value.IsNil" 0) ReflectliteValue.isNil) Tryz.func78 (by kernel_rfl) (by kernel_rfl) (by kernel_rfl) (by kernel_rfl)
 have h143 := @run_callFunc_extern Tryz.prog 228 _ (ReflectliteType.abiMethod fun t => do pure (.int .u8 (← Rtype.kind t))) Tryz.func228 (by kernel_rfl) (by kernel_rfl) (by kernel_rfl) (by kernel_rfl)
 have h155 := @run_callFunc_extern Tryz.prog 240 _ (ReflectliteType.method ReflectliteType.elem) Tryz.func240 (by kernel_rfl) (by kernel_rfl) (by kernel_rfl) (by kernel_rfl)
 have h156 := @run_callFunc_extern Tryz.prog 241 _ (ReflectliteType.relation "Implements" ReflectliteType.implements_) Tryz.func241 (by kernel_rfl) (by kernel_rfl) (by kernel_rfl) (by kernel_rfl)
 have h58 := @run_callFunc_extern Tryz.prog 109 _ ReflectliteType.typeOf Tryz.func109 (by kernel_rfl) (by kernel_rfl) (by kernel_rfl) (by kernel_rfl)
 have h153 := @run_callFunc_extern Tryz.prog 238 _ (ReflectliteType.relation "AssignableTo" ReflectliteType.assignableTo) Tryz.func238 (by kernel_rfl) (by kernel_rfl) (by kernel_rfl) (by kernel_rfl)
 have h59 := @run_callFunc_extern Tryz.prog 110 _ (ReflectliteValue.method (ReflectliteValue.valueError "reflectlite.Value.Elem" 0) ReflectliteValue.elem) Tryz.func110 (by kernel_rfl) (by kernel_rfl) (by kernel_rfl) (by kernel_rfl)
 have h60 := @run_callFunc_extern Tryz.prog 111 _ ReflectliteValue.set Tryz.func111 (by kernel_rfl) (by kernel_rfl) (by kernel_rfl) (by kernel_rfl)
 have tO := typeOf54
 have a54 := assignable54
 have v54 := valueOf54
 have f6 := valueOf56
 have f7 := type56
 have k56 := kind56
 have k54 := kind54
 have e56 := elem56
 have i54 := implements54
 have mK : ∀ (h : Value) (w : World), (Go.method 363 137 (.agg #[h]) "Kind").run Tryz.prog w = .ok (228, h) w := fun h w => by kernel_rfl
 have mE : ∀ (h : Value) (w : World), (Go.method 363 137 (.agg #[h]) "Elem").run Tryz.prog w = .ok (240, .agg #[h]) w := fun h w => by kernel_rfl
 have mI : ∀ (h : Value) (w : World), (Go.method 363 137 (.agg #[h]) "Implements").run Tryz.prog w = .ok (241, .agg #[h]) w := fun h w => by kernel_rfl
 have mA : ∀ (h : Value) (w : World), (Go.method 363 137 (.agg #[h]) "AssignableTo").run Tryz.prog w = .ok (238, .agg #[h]) w := fun h w => by kernel_rfl
 have n8 := isNil56 ⟨w.heap.size, 0, none⟩ ⟨t, 0, none⟩ ((w.alloc (.cells #[.pointer (some ⟨t, 0, none⟩)] 66)).alloc (.cells #[.pointer (some ⟨7, 66, none⟩), .pointer (some ⟨w.heap.size, 0, none⟩), .int .u64 150] 105)) (by simp)
 have hlt : 0 < w.heap.size := by
  rcases Nat.lt_or_ge 0 w.heap.size with h | h
  ·exact h
  ·simp [World.cell?, Array.getElem?_eq_none h] at hg
 have hg2 : ((w.alloc (.cells #[.pointer (some ⟨t, 0, none⟩)] 66)).alloc (.cells #[.pointer (some ⟨7, 66, none⟩), .pointer (some ⟨w.heap.size, 0, none⟩), .int .u64 150] 105)).cell? ⟨0, 0, none⟩ = some (.iface 137 (.agg #[.pointer (some ⟨7, 60, none⟩)])) := by
  rw [World.cell?_alloc_lt _ _ ⟨0, 0, none⟩ (by simp), World.cell?_alloc_lt _ _ ⟨0, 0, none⟩ hlt]; exact hg
 have htl : t < w.heap.size := by
  rcases Nat.lt_or_ge t w.heap.size with h | h
  ·exact h
  ·simp [Array.getElem?_eq_none h] at ht
 have ht0 : w.cell? ⟨t, 0, none⟩ = some o0 := by simp [World.cell?, ht]
 have ht1 : w.cell? ⟨t, 1, none⟩ = some o1 := by simp [World.cell?, ht]
 have hf0 : ∀ j, w.frozen? ⟨t, j, none⟩ = false := fun j => by simp [World.frozen?, ht]
 have el := elemV56 ⟨w.heap.size, 0, none⟩ ⟨t, 0, none⟩ (((w.alloc (.cells #[.pointer (some ⟨t, 0, none⟩)] 66)).alloc (.cells #[.pointer (some ⟨7, 66, none⟩), .pointer (some ⟨w.heap.size, 0, none⟩), .int .u64 150] 105)).alloc (.cells #[.pointer (some ⟨7, 66, none⟩), .pointer (some ⟨w.heap.size, 0, none⟩), .int .u64 150] 105)) (by rw [World.cell?_alloc_lt _ _ ⟨w.heap.size, 0, none⟩ (by simp; omega)]; simp)
 have st := set54 t (w.heap.size + 1 + 1 + 1) a y o0 o1 ((((w.alloc (.cells #[.pointer (some ⟨t, 0, none⟩)] 66)).alloc (.cells #[.pointer (some ⟨7, 66, none⟩), .pointer (some ⟨w.heap.size, 0, none⟩), .int .u64 150] 105)).alloc (.cells #[.pointer (some ⟨7, 66, none⟩), .pointer (some ⟨w.heap.size, 0, none⟩), .int .u64 150] 105)).alloc (.cells #[.int .i64 a, .int .i64 y] 64))
  (by rw [World.cell?_alloc_at _ _ _ _ (by simp)]; rfl)
  (by rw [World.cell?_alloc_at _ _ _ _ (by simp)]; rfl)
  (by rw [World.cell?_alloc_lt _ _ ⟨t, 0, none⟩ (by simp; omega), World.cell?_alloc_lt _ _ ⟨t, 0, none⟩ (by simp; omega), World.cell?_alloc_lt _ _ ⟨t, 0, none⟩ (by simp; omega), World.cell?_alloc_lt _ _ ⟨t, 0, none⟩ htl]; exact ht0)
  (by rw [World.cell?_alloc_lt _ _ ⟨t, 1, none⟩ (by simp; omega), World.cell?_alloc_lt _ _ ⟨t, 1, none⟩ (by simp; omega), World.cell?_alloc_lt _ _ ⟨t, 1, none⟩ (by simp; omega), World.cell?_alloc_lt _ _ ⟨t, 1, none⟩ htl]; exact ht1)
  (fun j => by rw [World.frozen?_alloc_old _ _ ⟨t, j, none⟩ (by simp; omega), World.frozen?_alloc_old _ _ ⟨t, j, none⟩ (by simp; omega), World.frozen?_alloc_old _ _ ⟨t, j, none⟩ (by simp; omega), World.frozen?_alloc_old _ _ ⟨t, j, none⟩ (Nat.ne_of_lt htl)]; exact hf0 j)
 go_enter Tryz.func33, Tryz.ntmps33
 go_wp2
 refine wp_loop_rounds 1 ?_
 rw [rounds_succ]
 go_wp2
 go_ret
 refine ⟨rfl, ?_, ?_⟩
 ·refine hide (hS6 (heap_setCell_same _ _ _ #[o0, o1] _ _ ?_))
  rw [heap_alloc_old _ _ (by simp; omega), heap_alloc_old _ _ (by simp; omega), heap_alloc_old _ _ (by simp; omega), heap_alloc_old _ _ htl]
  exact ht
 ·exact hide (((((World.grownBy_alloc w _ _).trans (World.grownBy_alloc _ _ _)).trans (World.grownBy_alloc _ _ _)).trans (World.grownBy_alloc _ _ _)).trans ((grownBy_setCell _ ⟨t, 0, none⟩ _).trans (grownBy_setCell _ ⟨t, 1, none⟩ _)))
end Go.Proofs.YtmpjeahibfdehaaGreatDoor
end
section
set_option linter.unusedVariables false
set_option maxRecDepth 1000000
namespace Go.Proofs.YtmpjeahibfdehaaGreatDoor
open Go.RowKit Go.Extern.Stop Go.Stop Go.Extern

theorem ps_rd (l : List UInt8) (h : l.length ≤ 65536) : psM l = match rdM l with | .no r y => (Js.nul, l.length - r.length, y) | .ok v _ => (v, 0, 0) := by
 have h1 : ¬ 65536 < l.length := by omega
 unfold psM rdM
 rw [if_neg h1]
 cases vaM 16 (skB l) with
 | no r y => rfl
 | ok v r =>
  simp only
  cases skB r with
  | nil => rfl
  | cons c r2 => rfl
theorem below_gr1 {B : Nat} {a w w' : World} {t : Nat} (h : Below B a w) (g : w.grownBy w' (some t)) (ht : B ≤ t) (hB : B ≤ w.heap.size) : Below B a w' :=
 ⟨g.os.trans h.os, g.tape.trans h.tape, g.output.trans h.output, Nat.le_trans h.size g.size, fun k hk => (g.block k (Nat.lt_of_lt_of_le hk hB) (fun e => by have := Option.some.inj e; omega)).trans (h.block k hk)⟩
/-- What Parse hands back. -/
def PsP (w : World) (T : List UInt8) (e : Ending) (w' : World) : Prop :=
 Below w.heap.size w w' ∧ Tb4 w' ∧ ∃ val, e = .returned (.tuple #[val, .int .i64 ((psM T).2.1 : Int), .int .i64 ((psM T).2.2 : Int)]) ∧ JV w' (Nw w w') val (psM T).1
/-- The type of errors, as errors.As has it. -/
def Et4 (w : World) : Prop := w.cell? ⟨0, 0, none⟩ = some (.iface 137 (.agg #[.pointer (some ⟨7, 60, none⟩)]))
theorem Et4.lt {w : World} (h : Et4 w) : 0 < w.heap.size := by
 unfold Et4 at h
 rcases Nat.lt_or_ge 0 w.heap.size with h1 | h1
 ·exact h1
 ·simp [World.cell?, Array.getElem?_eq_none h1] at h
theorem Et4.below {w w' : World} (h : Et4 w) (hb : Below w.heap.size w w') : Et4 w' := by
 have := hb.block _ h.lt
 unfold Et4 at *
 rw [← h]
 simp only [World.cell?, this]
/-- What the end of Parse leaves: its result, in its block. -/
theorem pret {w W u : World} {R : Nat} {v0 v1 v2 v3 v4 : Value} {j : Js} (hR : R = w.heap.size) (hW : W = w.alloc (.cells #[.int .i64 0, .int .i64 0, .string ⟨#[]⟩, .slice none 0 0, .slice none 0 0] 44)) (hT : Tb4 w) (hb : Below W.heap.size W u) (hj : JV u (fun k => R < k ∧ k < u.heap.size) (.agg #[v0, v1, v2, v3, v4]) j) :
  u.heap[R]? = some (.cells #[.int .i64 0, .int .i64 0, .string ⟨#[]⟩, .slice none 0 0, .slice none 0 0] 44 (0, 0)) ∧ ∃ w3, w3 = ((((u.setCell ⟨R, 0, none⟩ v0).setCell ⟨R, 1, none⟩ v1).setCell ⟨R, 2, none⟩ v2).setCell ⟨R, 3, none⟩ v3).setCell ⟨R, 4, none⟩ v4 ∧ w3.heap[R]? = some (.cells #[v0, v1, v2, v3, v4] 44 (0, 0)) ∧ JV w3 (Nw w w3) (.agg #[v0, v1, v2, v3, v4]) j ∧ Below w.heap.size w w3 ∧ Tb4 w3 := by
 have hbW : Below w.heap.size w W := by rw [hW]; exact bA _
 have hsW : W.heap.size = R + 1 := by rw [hW, hR]; simp
 have rW : W.heap[R]? = some (.cells #[.int .i64 0, .int .i64 0, .string ⟨#[]⟩, .slice none 0 0, .slice none 0 0] 44 (0, 0)) := by rw [hW, hR]; exact heap_alloc_new _ _
 have r2 := (hb.block R (by omega)).trans rW
 have b3 : Below w.heap.size w (((((u.setCell ⟨R, 0, none⟩ v0).setCell ⟨R, 1, none⟩ v1).setCell ⟨R, 2, none⟩ v2).setCell ⟨R, 3, none⟩ v3).setCell ⟨R, 4, none⟩ v4) := by
  obtain ⟨o1, o2, o3⟩ := oth5 u R 0 1 2 3 4 v0 v1 v2 v3 v4
  have hh := hbW.trans (hb.mono hbW.size)
  exact ⟨o1.trans hh.os, o2.trans hh.tape, o3.trans hh.output, by rw [siz5]; exact hh.size, fun k hk => (far5 u R k _ _ _ _ _ _ _ _ _ _ (by omega)).trans (hh.block k hk)⟩
 refine ⟨r2, _, rfl, hS6 (hS6 (hS6 (hS6 (hS6 r2)))), ?_, b3, hT.below b3⟩
 exact JV.keep (fun k hk => ⟨⟨by omega, by rw [siz5]; exact hk.2⟩, far5 u R k _ _ _ _ _ _ _ _ _ _ (by omega)⟩) _ _ hj
set_option maxHeartbeats 8000000 in
theorem parse_any (T : List UInt8) (w : World) (hT : Tb4 w) (hE : Et4 w) :
  Calls Tryz.prog 16 #[.string (str T)] w fun e w' => PsP w T e w' := by
 have hsz : (str T).size = T.length := rfl
 by_cases hl : 65536 < T.length
 ·have hl' : (65536 : Int) < (T.length : Int) := by omega
  have HF : Hid (PsP w T (.returned (.tuple #[.agg #[.int .i64 0, .int .i64 0, .string ⟨#[]⟩, .slice none 0 0, .slice none 0 0], .int .i64 0, .int .i64 4])) (w.alloc (.cells #[.int .i64 0, .int .i64 0, .string ⟨#[]⟩, .slice none 0 0, .slice none 0 0] 44))) := by
   have e : psM T = (Js.nul, 0, 4) := by unfold psM; rw [if_pos hl]
   have b : Below w.heap.size w (w.alloc (.cells #[.int .i64 0, .int .i64 0, .string ⟨#[]⟩, .slice none 0 0, .slice none 0 0] 44)) := bA _
   refine ⟨b, hT.below b, _, by rw [e]; rfl, by rw [e]; exact JV.flat _ _ 0 0 []⟩
  clear hT hE
  go_enter Tryz.func16, Tryz.ntmps16
  go_wp2_with fail
  refine ⟨rfl, _, by simp [results, Tryz.results16, go_sem]; rfl, ?_⟩
  exact uh HF
 ·have hl' : ¬ (65536 : Int) < (T.length : Int) := by omega
  have hPS := ps_rd T (by omega)
  obtain ⟨R, hR⟩ : ∃ R, R = w.heap.size := ⟨_, rfl⟩
  obtain ⟨W, hW⟩ : ∃ W, W = w.alloc (.cells #[.int .i64 0, .int .i64 0, .string ⟨#[]⟩, .slice none 0 0, .slice none 0 0] 44) := ⟨_, rfl⟩
  have hbW : Below w.heap.size w W := by rw [hW]; exact bA _
  have hsW : W.heap.size = R + 1 := by rw [hW, hR]; simp
  have HR := hide (read_any T W (hT.below hbW) (by omega))
  have HEW := hide (hE.below hbW)
  have HbW := hide hbW
  have HsW := hide hsW
  have HhR := hide hR
  have HhW := hide hW
  have HTw := hide hT
  clear hT hE hbW hsW
  go_enter Tryz.func16, Tryz.ntmps16
  go_upto_region 1 with fail
  rw [← hW, ← hR]
  clear hW hR
  go_wp2_with fail
  refine (uh HR).mono ?_
  rintro e w1 ⟨hb1, ht1, (⟨j, val, hM, rfl, hJ⟩ | ⟨y, a, hM, ha, rfl⟩)⟩
  ·obtain ⟨jk, jn, jt, ja1, jn1, jc1, ja2, jn2, jc2, rfl⟩ := hJ.form
   have ePS : psM T = (j, 0, 0) := by rw [hPS, hM]
   have hsW := uh HsW
   obtain ⟨V, hV⟩ : ∃ V, V = w1.heap.size := ⟨_, rfl⟩
   obtain ⟨u, hu⟩ : ∃ u, u = w1.alloc (.cells #[.int .i64 jk, .int .i64 jn, .string (str jt), .slice ja1 jn1 jc1, .slice ja2 jn2 jc2] 44) := ⟨_, rfl⟩
   have hbu : Below W.heap.size W u := by rw [hu]; exact hb1.alloc hb1.size _
   have hJu : JV u (fun k => R < k ∧ k < u.heap.size) (.agg #[.int .i64 jk, .int .i64 jn, .string (str jt), .slice ja1 jn1 jc1, .slice ja2 jn2 jc2]) j := JV.keep (fun k hk => ⟨⟨by have := hk.1; omega, by rw [hu]; simp; have := hk.2; omega⟩, by rw [hu]; exact heap_alloc_old _ _ hk.2⟩) _ _ hJ
   have rV : u.heap[V]? = some (.cells #[.int .i64 jk, .int .i64 jn, .string (str jt), .slice ja1 jn1 jc1, .slice ja2 jn2 jc2] 44 (0, 0)) := by rw [hu, hV]; exact heap_alloc_new _ _
   obtain ⟨r2, w3, h3, r3, HJ3, HB3, HT3⟩ := pret (uh HhR) (uh HhW) (uh HTw) hbu hJu
   have q0 : u.cell? ⟨R, 0, none⟩ = some (.int .i64 0) := cR6 r2
   have q1 : u.cell? ⟨R, 1, none⟩ = some (.int .i64 0) := cR6 r2
   have q2 : u.cell? ⟨R, 2, none⟩ = some (.string ⟨#[]⟩) := cR6 r2
   have q3 : u.cell? ⟨R, 3, none⟩ = some (.slice none 0 0) := cR6 r2
   have q4 : u.cell? ⟨R, 4, none⟩ = some (.slice none 0 0) := cR6 r2
   have p0 : u.cell? ⟨V, 0, none⟩ = some (.int .i64 jk) := cR6 rV
   have p1 : u.cell? ⟨V, 1, none⟩ = some (.int .i64 jn) := cR6 rV
   have p2 : u.cell? ⟨V, 2, none⟩ = some (.string (str jt)) := cR6 rV
   have p3 : u.cell? ⟨V, 3, none⟩ = some (.slice ja1 jn1 jc1) := cR6 rV
   have p4 : u.cell? ⟨V, 4, none⟩ = some (.slice ja2 jn2 jc2) := cR6 rV
   have fz : ∀ j, u.frozen? ⟨R, j, none⟩ = false := fun j => frozen_of_row _ _ _ _ _ r2
   have f0 := fz 0
   have f1 := fz 1
   have f2 := fz 2
   have f3 := fz 3
   have f4 := fz 4
   have t0 : w3.cell? ⟨R, 0, none⟩ = some (.int .i64 jk) := cR6 r3
   have t1 : w3.cell? ⟨R, 1, none⟩ = some (.int .i64 jn) := cR6 r3
   have t2 : w3.cell? ⟨R, 2, none⟩ = some (.string (str jt)) := cR6 r3
   have t3 : w3.cell? ⟨R, 3, none⟩ = some (.slice ja1 jn1 jc1) := cR6 r3
   have t4 : w3.cell? ⟨R, 4, none⟩ = some (.slice ja2 jn2 jc2) := cR6 r3
   have HF : Hid (PsP w T (.returned (.tuple #[.agg #[.int .i64 jk, .int .i64 jn, .string (str jt), .slice ja1 jn1 jc1, .slice ja2 jn2 jc2], .int .i64 0, .int .i64 0])) w3) :=
    ⟨HB3, HT3, _, by rw [ePS]; rfl, by rw [ePS]; exact HJ3⟩
   clear hb1 ht1 hJ hM ePS hPS r3 r2 fz HJ3 HB3 HT3 hbu hJu rV hsW
   go_upto_region 4 with fail
   rw [← hu, ← hV]
   clear hu hV
   go_wp2_with fail
   rw [← h3]
   clear h3
   refine ⟨rfl, _, by simp [results, Tryz.results16, go_sem, t0, t1, t2, t3, t4]; rfl, ?_⟩
   exact uh HF
  ·obtain ⟨t, htt⟩ : ∃ t, t = w1.heap.size + 1 := ⟨_, rfl⟩
   obtain ⟨W2, hW2⟩ : ∃ W2, W2 = (w1.alloc (.cells #[.int .i64 0, .int .i64 0, .string ⟨#[]⟩, .slice none 0 0, .slice none 0 0] 44)).alloc (.cells #[.int .i64 0, .int .i64 40] 64) := ⟨_, rfl⟩
   have hb2 : Below W.heap.size W W2 := by rw [hW2]; exact (hb1.alloc hb1.size _).alloc (by simp; have := hb1.size; omega) _
   have hrow : W2.heap[t]? = some (.cells #[.int .i64 0, .int .i64 40] 64 (0, 0)) := by rw [hW2, htt]; exact heap_alloc2_new _ _ _
   have HA := hide (as_hit4 t (a : Int) (y : Int) _ _ W2 ((uh HEW).below hb2) hrow)
   have HB2 := hide hb2
   have Ht : Hid (W.heap.size ≤ t) := by have := hb1.size; exact hide (by omega)
   have ePS : psM T = (Js.nul, a, y) := by rw [hPS, hM]; simp only [List.length_drop]; rw [show T.length - (T.length - a) = a by omega]
   have HPS := hide ePS
   clear hb1 ht1 hM hb2 hrow hPS ePS
   go_upto_region 7 with fail
   rw [← hW2, ← htt]
   clear hW2 htt
   go_wp2_with fail
   refine (uh HA).mono ?_
   rintro e w5 ⟨rfl, HR5, HG5⟩
   have hne : ¬ R = t := by have := uh HsW; have := uh Ht; omega
   have hne2 : ¬ t = R := fun e => hne e.symm
   have hb5 : Below W.heap.size W w5 := below_gr1 (uh HB2) (uh HG5) (uh Ht) (uh HB2).size
   obtain ⟨r2, w3, h3, r3, HJ3, HB3, HT3⟩ := pret (uh HhR) (uh HhW) (uh HTw) hb5 (v2 := .string ⟨#[]⟩) (JV.flat w5 _ 0 0 [])
   have q0 : w5.cell? ⟨R, 0, none⟩ = some (.int .i64 0) := cR6 r2
   have q1 : w5.cell? ⟨R, 1, none⟩ = some (.int .i64 0) := cR6 r2
   have q2 : w5.cell? ⟨R, 2, none⟩ = some (.string ⟨#[]⟩) := cR6 r2
   have q3 : w5.cell? ⟨R, 3, none⟩ = some (.slice none 0 0) := cR6 r2
   have q4 : w5.cell? ⟨R, 4, none⟩ = some (.slice none 0 0) := cR6 r2
   have p0 : w5.cell? ⟨t, 0, none⟩ = some (.int .i64 a) := cR6 (uh HR5)
   have p1 : w5.cell? ⟨t, 1, none⟩ = some (.int .i64 y) := cR6 (uh HR5)
   have fz : ∀ j, w5.frozen? ⟨R, j, none⟩ = false := fun j => frozen_of_row _ _ _ _ _ r2
   have f0 := fz 0
   have f1 := fz 1
   have f2 := fz 2
   have f3 := fz 3
   have f4 := fz 4
   have t0 : w3.cell? ⟨R, 0, none⟩ = some (.int .i64 0) := cR6 r3
   have t1 : w3.cell? ⟨R, 1, none⟩ = some (.int .i64 0) := cR6 r3
   have t2 : w3.cell? ⟨R, 2, none⟩ = some (.string ⟨#[]⟩) := cR6 r3
   have t3 : w3.cell? ⟨R, 3, none⟩ = some (.slice none 0 0) := cR6 r3
   have t4 : w3.cell? ⟨R, 4, none⟩ = some (.slice none 0 0) := cR6 r3
   have HF : Hid (PsP w T (.returned (.tuple #[.agg #[.int .i64 0, .int .i64 0, .string ⟨#[]⟩, .slice none 0 0, .slice none 0 0], .int .i64 (a : Int), .int .i64 (y : Int)])) w3.drew) :=
    ⟨HB3.drew, HT3.keep (fun _ _ => rfl), _, by rw [uh HPS], by rw [uh HPS]; exact JV.keep (w := w3) (fun k hk => ⟨hk, rfl⟩) _ _ HJ3⟩
   clear r3 r2 fz HJ3 HB3 HT3 hb5 HA HR5 HG5
   go_wp2_with fail
   go_region
   rw [← h3]
   clear h3
   have d0 : w3.drew.cell? ⟨R, 0, none⟩ = some (.int .i64 0) := t0
   have d1 : w3.drew.cell? ⟨R, 1, none⟩ = some (.int .i64 0) := t1
   have d2 : w3.drew.cell? ⟨R, 2, none⟩ = some (.string ⟨#[]⟩) := t2
   have d3 : w3.drew.cell? ⟨R, 3, none⟩ = some (.slice none 0 0) := t3
   have d4 : w3.drew.cell? ⟨R, 4, none⟩ = some (.slice none 0 0) := t4
   clear t0 t1 t2 t3 t4
   go_wp2_with fail
   refine ⟨rfl, _, by simp [results, Tryz.results16, go_sem, d0, d1, d2, d3, d4]; rfl, ?_⟩
   exact uh HF
end Go.Proofs.YtmpjeahibfdehaaGreatDoor
end
section
set_option linter.unusedVariables false
set_option maxRecDepth 1000000
namespace Go.Proofs.YtmpjeahibfdehaaGreatDoor
open Go.RowKit Go.Extern.Stop Go.Stop Go.Extern

/-- A printer in block b that holds these bytes. -/
def Pr (w : World) (base b : Nat) (l : List UInt8) : Prop :=
 base ≤ b ∧ ∃ a cap, Cel w b 82 [.slice a l.length cap] ∧ OwnB w base a cap l
/-- A block that holds no bytes. -/
def nB (w : World) (k : Nat) : Prop := ∀ c, w.heap[k]? ≠ some (.cells c 5 (0, 0))
/-- What a printer's call leaves: its own blocks change, and new ones come. -/
structure Pk (w w' : World) (base b : Nat) : Prop where
 os : w'.os = w.os
 tape : w'.tape = w.tape
 output : w'.output = w.output
 size : w.heap.size ≤ w'.heap.size
 block : ∀ k, k < w.heap.size → k ≠ b → (k < base ∨ nB w k) → w'.heap[k]? = w.heap[k]?
theorem Pk.refl (w : World) (base b : Nat) : Pk w w base b := ⟨rfl, rfl, rfl, Nat.le_refl _, fun _ _ _ _ => rfl⟩
theorem Pk.trans {a c d : World} {base b : Nat} (h : Pk a c base b) (k : Pk c d base b) : Pk a d base b :=
 ⟨k.os.trans h.os, k.tape.trans h.tape, k.output.trans h.output, Nat.le_trans h.size k.size,
  fun j h1 h2 h3 => (k.block j (Nat.lt_of_lt_of_le h1 h.size) h2 (h3.imp id (fun e => by unfold nB; rw [h.block j h1 h2 (.inr e)]; exact e))).trans (h.block j h1 h2 h3)⟩
theorem Pk.ofB {w w' : World} {base b : Nat} (h : Below w.heap.size w w') : Pk w w' base b := ⟨h.os, h.tape, h.output, h.size, fun k hk _ _ => h.block k hk⟩
theorem pown_ne {w : World} {base b cap : Nat} {a : Option Addr} {l : List UInt8} {vs : List Value} (hO : OwnB w base a cap l) (hC : Cel w b 82 vs) : blk a ≠ some b := by
 intro e
 rcases hO.cases with ⟨rfl, _, _⟩ | ⟨g, cur, rfl, _, hg, _⟩
 ·cases e
 ·simp [blk] at e
  subst e
  unfold Cel at hC
  rw [hC] at hg
  simp at hg
/-- What lies below the printer stays. -/
theorem Pk.below {w w' : World} {base b : Nat} (h : Pk w w' base b) (hbb : base ≤ b) (hb : base ≤ w.heap.size) : Below base w w' :=
 ⟨h.os, h.tape, h.output, h.size, fun k hk => h.block k (by omega) (by omega) (.inl hk)⟩
theorem own_nB {w : World} {base k cap : Nat} {a : Option Addr} {l : List UInt8} (hO : OwnB w base a cap l) (hk : k < base ∨ nB w k) : blk a ≠ some k := by
 intro e
 rcases hk with h | h
 ·have := (hO.lt k e).1
  omega
 ·rcases hO.cases with ⟨rfl, _, _⟩ | ⟨g, cur, rfl, _, hg, _⟩
  ·cases e
  ·simp [blk] at e
   subst e
   exact h _ hg
/-- What an append leaves. -/
theorem pr_put {base b cap a1c : Nat} {a a1 : Option Addr} {l r : List UInt8} {w1 w2 : World} (hb : base ≤ b) (hC : Cel w1 b 82 [.slice a1 l.length a1c]) (hO1 : OwnB w1 base a1 a1c l) (hO : OwnB w2 base a cap r) (hg : w1.grownBy w2 (blk a1)) :
  Pr (w2.setCell ⟨b, 0, none⟩ (.slice a r.length cap)) base b r ∧ Pk w1 (w2.setCell ⟨b, 0, none⟩ (.slice a r.length cap)) base b := by
 have hn1 := pown_ne hO1 hC
 have hC2 := hC.grown hg hn1
 have hne := pown_ne hO hC2
 have hC3 := hC2.set 0 (.slice a r.length cap)
 have hs2 := cg_set w2 ⟨b, 0, none⟩ (.slice a r.length cap)
 refine ⟨⟨hb, a, cap, hC3, hO.kept hs2 (.inr hne)⟩, hs2.os.trans hg.os, hs2.tape.trans hg.tape, hs2.output.trans hg.output, Nat.le_trans hg.size hs2.size, fun k h1 h2 h3 => ?_⟩
 exact (hs2.block k (Nat.lt_of_lt_of_le h1 hg.size) (fun e => h2 (by have := Option.some.inj e; omega))).trans (hg.block k h1 (fun e => own_nB hO1 h3 e.symm))
set_option maxHeartbeats 2000000 in
theorem put_any (base b : Nat) (l s : List UInt8) (w : World) (h : Pr w base b l) (hlen : l.length + s.length ≤ 100000000) (hbase : base ≤ w.heap.size) :
  Calls Tryz.prog 90 #[.pointer (some ⟨b, 0, none⟩), .string (str s)] w fun e w' => e = .returned (.tuple #[]) ∧ Hid (Pr w' base b (l ++ s)) ∧ Hid (Pk w w' base b) := by
 obtain ⟨hb, a1, c1, hC, hO⟩ := h
 have hn1 := pown_ne hO hC
 have HC := hide hC
 have HO := hide hO
 have HN := hide hn1
 have HBB := hide hb
 have HB := hide hbase
 have HLB : Hid (l.length + (str s).size ≤ 140737488355328) := by rw [str_size]; exact hide (by omega)
 have c0 := hC.cell 0
 have f0 := hC.fr 0
 simp only [List.getElem?_cons_zero] at c0
 clear hC hO hn1 hbase hlen hb
 go_enter Tryz.func90, Tryz.ntmps90
 go_wp2_with (refine wp_apps _ rfl _ _ rfl base a1 c1 l rfl HO.out (str s) rfl HLB.out HB.out ?_; intro a3 c3 r w2 hr hO3 hg3; have HO3 := hide hO3; have HG3 := hide hg3; have f2 : w2.frozen? ⟨b, 0, none⟩ = false := (HC.out.grown hg3 HN.out).fr 0; have c2 := (HC.out.grown hg3 HN.out).cell 0; simp only [List.getElem?_cons_zero] at c2; clear hO3 hg3)
 go_end0
 obtain ⟨k1, k2⟩ := pr_put HBB.out HC.out HO.out HO3.out HG3.out
 rw [hr.out] at k1 k2 ⊢
 exact ⟨rfl, k1, k2⟩
set_option maxHeartbeats 2000000 in
theorem full_any (base b : Nat) (l : List UInt8) (w : World) (h : Pr w base b l) :
  Calls Tryz.prog 56 #[.pointer (some ⟨b, 0, none⟩)] w fun e w' => e = .returned (.bool (decide (65536 < l.length))) ∧ w' = w := by
 obtain ⟨hb, a1, c1, hC, hO⟩ := h
 have c0 := hC.cell 0
 simp only [List.getElem?_cons_zero] at c0
 clear hC hO hb
 go_enter Tryz.func56, Tryz.ntmps56
 go_wp2
 go_ret
 refine ⟨?_, rfl⟩
 show Ending.returned (.bool (decide ((65536 : Int) < (l.length : Int)))) = _
 rw [show decide ((65536 : Int) < (l.length : Int)) = decide (65536 < l.length) from decide_eq_decide.2 (by omega)]
set_option maxHeartbeats 2000000 in
theorem comma_any (base b i : Nat) (l : List UInt8) (w : World) (h : Pr w base b l) (hlen : l.length ≤ 90000000) (hbase : base ≤ w.heap.size) :
  Calls Tryz.prog 132 #[.pointer (some ⟨b, 0, none⟩), .int .i64 (i : Int)] w fun e w' => e = .returned (.tuple #[]) ∧ Hid (Pr w' base b (l ++ (if i = 0 then [] else [44]))) ∧ Hid (Pk w w' base b) := by
 have HP := hide (put_any base b l [44] w h (by simp; omega) hbase)
 have HH := hide h
 clear h hbase
 by_cases hi : i = 0
 ·subst hi
  go_enter Tryz.func132, Tryz.ntmps132
  go_wp2
  go_end0
  refine ⟨rfl, ?_, hide (Pk.refl _ _ _)⟩
  simpa using HH
 ·have hi' : (0 : Int) < (i : Int) := by omega
  go_enter Tryz.func132, Tryz.ntmps132
  go_wp2_with fail
  refine (uh HP).mono ?_
  rintro e w1 ⟨rfl, h1, h2⟩
  go_wp2_with fail
  go_end0
  exact ⟨rfl, h1, h2⟩
end Go.Proofs.YtmpjeahibfdehaaGreatDoor
end
section
set_option linter.unusedVariables false
set_option maxRecDepth 1000000
namespace Go.Proofs.YtmpjeahibfdehaaGreatDoor
open Go.RowKit Go.Extern.Stop Go.Stop Go.Extern

/-- How a byte of a text is printed. -/
def hxD (n : Nat) : UInt8 := if n < 10 then UInt8.ofNat (48 + n) else UInt8.ofNat (87 + n)
def qcB (c : UInt8) : List UInt8 := if c = 34 ∨ c = 92 then [92, c] else if c.toNat < 32 then [92, 117, 48, 48, hxD (c.toNat / 16), hxD (c.toNat % 16)] else [c]
/-- A text's bytes, till the print is too long. -/
def qtL : List UInt8 → List UInt8 → List UInt8
 | acc, [] => acc
 | acc, c :: r => if 65536 < acc.length then acc else qtL (acc ++ qcB c) r
theorem qc_len (c : UInt8) : (qcB c).length ≤ 6 := by
 unfold qcB
 split
 ·simp
 ·split <;> simp
theorem Pr.below {w w' : World} {base b : Nat} {l : List UInt8} (h : Pr w base b l) (hb : Below w.heap.size w w') : Pr w' base b l := by
 obtain ⟨h1, a, cap, hC, hO⟩ := h
 exact ⟨h1, a, cap, (hb.block b hC.lt).trans hC, hO.below hb (Nat.le_refl _)⟩
theorem litR (w : World) (zs : List Value) (bs : List UInt8) (m : Nat × Nat) (h : zs = bs.map fun x => .int .u8 (x.toNat : Int)) : Row (w.alloc (.cells zs.toArray 5 m)) (some ⟨w.heap.size, 0, none⟩) bs := by
 intro _
 refine ⟨w.heap.size, 0, rfl, fun i hi => ?_⟩
 rw [World.cell?_alloc_mark]
 subst h
 simp [hi]
theorem and15F : ∀ m : Fin 256, bits .and .u8 ((m.val : Nat) : Int) 15 = ((m.val % 16 : Nat) : Int) := by decide +kernel
theorem and15 (n : Nat) (h : n < 256) : bits .and .u8 (n : Int) 15 = ((n % 16 : Nat) : Int) := and15F ⟨n, h⟩
theorem hix (k : Nat) (h : k < 16) (w : World) : (Instr.index 9 (.string ⟨#[48, 49, 50, 51, 52, 53, 54, 55, 56, 57, 97, 98, 99, 100, 101, 102]⟩) (.int .u8 (k : Int))).run Tryz.prog w = .ok (.int .u8 ((hxD k).toNat : Int)) w := by
 have : k = 0 ∨ k = 1 ∨ k = 2 ∨ k = 3 ∨ k = 4 ∨ k = 5 ∨ k = 6 ∨ k = 7 ∨ k = 8 ∨ k = 9 ∨ k = 10 ∨ k = 11 ∨ k = 12 ∨ k = 13 ∨ k = 14 ∨ k = 15 := by omega
 rcases this with rfl | rfl | rfl | rfl | rfl | rfl | rfl | rfl | rfl | rfl | rfl | rfl | rfl | rfl | rfl | rfl <;> first | rfl | (show _ = _; kernel_rfl)
set_option maxHeartbeats 4000000 in
theorem quoted_any (base b : Nat) (l s : List UInt8) (w : World) (h : Pr w base b l) (hlen : l.length ≤ 90000000) (hs : s.length ≤ 10000000) (hbase : base ≤ w.heap.size) :
  Calls Tryz.prog 93 #[.pointer (some ⟨b, 0, none⟩), .string (str s)] w fun e w' => e = .returned (.tuple #[]) ∧ Hid (Pr w' base b (qtL (l ++ [34]) s ++ [34])) ∧ Hid (Pk w w' base b) := by
 have HP := hide (put_any base b l [34] w h (by simp; omega) hbase)
 have HB := hide hbase
 have hsz : (str s).size = s.length := rfl
 clear h hbase
 go_enter Tryz.func93, Tryz.ntmps93
 go_wp2_with fail
 refine (uh HP).mono ?_
 rintro e w1 ⟨rfl, h1, h2⟩
 clear HP
 go_wp2_with fail
 go_loopw [4] (fun v wr => ∃ (i : Nat) (acc : List UInt8), i ≤ s.length ∧ v = .int .i64 (i : Int) ∧ acc.length ≤ 90000100 ∧ Hid (Pr wr base b acc) ∧ Hid (Pk w wr base b) ∧ Hid (qtL (l ++ [34]) s = qtL acc (s.drop i))) (fun v _ => s.length - (intOf v).toNat)
 case atStart => exact ⟨0, _, Nat.zero_le _, rfl, by simp; omega, h1, h2, rfl⟩
 case round =>
  clear h1 h2
  obtain ⟨i, acc, hi, rfl, hal, H1, H2, HS⟩ := hrel
  have HBr : Hid (base ≤ wr.heap.size) := Nat.le_trans (uh HB) (uh H2).size
  have HF := hide (full_any base b acc wr (uh H1))
  by_cases hlt : i < s.length
  ·obtain ⟨c, hc⟩ : ∃ c, s[i]? = some c := ⟨_, List.getElem?_eq_getElem hlt⟩
   have hlt' : (i : Int) < (s.length : Int) := by omega
   have hdr : s.drop i = c :: s.drop (i + 1) := by
    rw [List.drop_eq_getElem_cons hlt]; congr 1; exact (List.getElem?_eq_some_iff.1 hc).2
   have hix0 := fun w => run_ix4 w s i c hc
   by_cases hfl : 65536 < acc.length
   ·rw [decide_eq_true hfl] at HF
    have HE : Hid (qtL (l ++ [34]) s = acc) := by show _ = _; rw [uh HS, hdr]; simp only [qtL]; rw [if_pos hfl]
    have HQ := hide (put_any base b acc [34] wr (uh H1) (by simp; omega) (uh HBr))
    clear hc hdr HS
    go_wp2_with fail
    refine (uh HF).mono ?_
    rintro e w2 ⟨rfl, hw2⟩
    subst hw2
    clear HF
    go_wp2_with fail
    refine (uh HQ).mono ?_
    rintro e w3 ⟨rfl, h3, h4⟩
    clear HQ
    go_wp2_with fail
    go_end0
    rw [uh HE]
    exact ⟨rfl, h3, hide ((uh H2).trans (uh h4))⟩
   ·rw [decide_eq_false hfl] at HF
    have HE : Hid (qtL (l ++ [34]) s = qtL (acc ++ qcB c) (s.drop (i + 1))) := by show _ = _; rw [uh HS, hdr]; simp only [qtL]; rw [if_neg hfl]
    have hc256 := c.toNat_lt
    obtain ⟨hbb, a1, c1, hC, hO⟩ := uh H1
    have c0 := hC.cell 0
    simp only [List.getElem?_cons_zero] at c0
    have HC := hide hC
    have HO := hide hO
    have HBB := hide hbb
    have HN := hide (pown_ne hO hC)
    clear hc hdr HS hC hO
    go_wp2_with fail
    refine (uh HF).mono ?_
    rintro e w2 ⟨rfl, hw2⟩
    subst hw2
    clear HF
    by_cases hq : c = 34 ∨ c = 92
    ·have EQ : qcB c = [92, c] := by unfold qcB; rw [if_pos hq]
     by_cases h34 : c = 34
     ·subst h34
      simp only [show ((34 : UInt8).toNat : Int) = 34 from rfl] at hix0
      have HOV : ∀ o, Hid (OwnB (w2.alloc o) base a1 c1 acc) := fun o => hide ((uh HO).below ((Below.refl _ _).alloc (Nat.le_refl _) o) (Nat.le_refl _))
      have HRV : ∀ m, Hid (Row (w2.alloc (.cells #[.int .u8 92, .int .u8 34] 5 m)) (some ⟨w2.heap.size, 0, none⟩) [92, 34]) := fun m => hide (litR w2 _ [92, 34] m rfl)
      have HLB : Hid (acc.length + [92, 34].length ≤ 140737488355328) := by show _ ≤ _; simp; omega
      have HBV : ∀ o, Hid (base ≤ (w2.alloc o).heap.size) := fun o => by have := uh HBr; show _ ≤ _; simp; omega
      have HCV : ∀ o, Hid (Cel (w2.alloc o) b 82 [.slice a1 acc.length c1]) := fun o => hide ((heap_alloc_old w2 o (uh HC).lt).trans (uh HC))
      have f0 := (uh HC).fr 0
      have HAL : Hid ((acc ++ [92, 34]).length ≤ 90000100) := by show _ ≤ _; simp; omega
      rw [EQ] at HE
      clear hfl EQ
      go_wp2_with (refine wp_app _ rfl _ _ rfl base a1 c1 acc rfl ?_ (some ⟨w2.heap.size, 0, none⟩) 2 [92, 34] 2 rfl rfl ?_ ?_ ?_ ?_ ?_; exact uh (HOV _); exact uh (HRV _); exact (fun e => by cases e); exact uh HLB; exact uh (HBV _); intro a3 c3 r w5 hr hO3 hg3; have HO3 := hide hO3; have HG3 := hide hg3; have f2 : w5.frozen? ⟨b, 0, none⟩ = false := ((uh (HCV _)).grown hg3 (uh HN)).fr 0; have c2 := ((uh (HCV _)).grown hg3 (uh HN)).cell 0; simp only [List.getElem?_cons_zero] at c2; clear hO3 hg3)
      obtain ⟨k1, k2⟩ := pr_put (uh HBB) (uh (HCV _)) (uh (HOV _)) (uh HO3) (uh HG3)
      have H2' := hide ((uh H2).trans ((Pk.ofB (bA _)).trans k2))
      rw [hr.out] at k1 H2' ⊢
      go_roundw
      case rel => exact ⟨i + 1, _, by omega, by go_num, HAL.out, hide k1, H2', HE⟩
      case measure => simp [intOf]; omega
     ·have q34 : ((c.toNat : Int) == 34) = false := by simp; intro e; exact h34 (UInt8.toNat_inj.1 (by show c.toNat = 34; omega))
      have q92 : ((c.toNat : Int) == 92) = true := by rw [hq.resolve_left h34]; rfl
      have HOV : ∀ o, Hid (OwnB (w2.alloc o) base a1 c1 acc) := fun o => hide ((uh HO).below ((Below.refl _ _).alloc (Nat.le_refl _) o) (Nat.le_refl _))
      have HRV : ∀ m, Hid (Row (w2.alloc (.cells #[.int .u8 92, .int .u8 (c.toNat : Int)] 5 m)) (some ⟨w2.heap.size, 0, none⟩) [92, c]) := fun m => hide (litR w2 _ [92, c] m rfl)
      have HLB : Hid (acc.length + [92, c].length ≤ 140737488355328) := by show _ ≤ _; simp; omega
      have HBV : ∀ o, Hid (base ≤ (w2.alloc o).heap.size) := fun o => by have := uh HBr; show _ ≤ _; simp; omega
      have HCV : ∀ o, Hid (Cel (w2.alloc o) b 82 [.slice a1 acc.length c1]) := fun o => hide ((heap_alloc_old w2 o (uh HC).lt).trans (uh HC))
      have f0 := (uh HC).fr 0
      have HAL : Hid ((acc ++ [92, c]).length ≤ 90000100) := by show _ ≤ _; simp; omega
      rw [EQ] at HE
      clear hfl EQ
      go_wp2_with (refine wp_app _ rfl _ _ rfl base a1 c1 acc rfl ?_ (some ⟨w2.heap.size, 0, none⟩) 2 [92, c] 2 rfl rfl ?_ ?_ ?_ ?_ ?_; exact uh (HOV _); exact uh (HRV _); exact (fun e => by cases e); exact uh HLB; exact uh (HBV _); intro a3 c3 r w5 hr hO3 hg3; have HO3 := hide hO3; have HG3 := hide hg3; have f2 : w5.frozen? ⟨b, 0, none⟩ = false := ((uh (HCV _)).grown hg3 (uh HN)).fr 0; have c2 := ((uh (HCV _)).grown hg3 (uh HN)).cell 0; simp only [List.getElem?_cons_zero] at c2; clear hO3 hg3)
      obtain ⟨k1, k2⟩ := pr_put (uh HBB) (uh (HCV _)) (uh (HOV _)) (uh HO3) (uh HG3)
      have H2' := hide ((uh H2).trans ((Pk.ofB (bA _)).trans k2))
      rw [hr.out] at k1 H2' ⊢
      go_roundw
      case rel => exact ⟨i + 1, _, by omega, by go_num, HAL.out, hide k1, H2', HE⟩
      case measure => simp [intOf]; omega
    ·have q34 : ((c.toNat : Int) == 34) = false := by simp; intro e; exact hq (.inl (UInt8.toNat_inj.1 (by show c.toNat = 34; omega)))
     have q92 : ((c.toNat : Int) == 92) = false := by simp; intro e; exact hq (.inr (UInt8.toNat_inj.1 (by show c.toNat = 92; omega)))
     by_cases hq2 : c.toNat < 32
     ·have q32 : (c.toNat : Int) < 32 := by omega
      have EQ : qcB c = [92, 117, 48, 48, hxD (c.toNat / 16), hxD (c.toNat % 16)] := by unfold qcB; rw [if_neg hq, if_pos hq2]
      obtain ⟨I1, hI1⟩ : ∃ I1, I1 = c.toNat / 16 := ⟨_, rfl⟩
      obtain ⟨I2, hI2⟩ : ∃ I2, I2 = c.toNat % 16 := ⟨_, rfl⟩
      have y1 : (c.toNat : Int) / 16 = (I1 : Int) := by omega
      have y2 : bits .and .u8 (c.toNat : Int) 15 = (I2 : Int) := by rw [hI2]; exact and15 c.toNat hc256
      have x1 := hix I1 (by omega)
      have x2 := hix I2 (by omega)
      rw [← hI1, ← hI2] at EQ
      obtain ⟨d1, hd1⟩ : ∃ d1, d1 = hxD I1 := ⟨_, rfl⟩
      obtain ⟨d2, hd2⟩ : ∃ d2, d2 = hxD I2 := ⟨_, rfl⟩
      rw [← hd1] at EQ x1
      rw [← hd2] at EQ x2
      clear hI1 hI2 hd1 hd2
      have HOV : ∀ o, Hid (OwnB (w2.alloc o) base a1 c1 acc) := fun o => hide ((uh HO).below ((Below.refl _ _).alloc (Nat.le_refl _) o) (Nat.le_refl _))
      have HRV : ∀ m, Hid (Row (w2.alloc (.cells #[.int .u8 92, .int .u8 117, .int .u8 48, .int .u8 48, .int .u8 (d1.toNat : Int), .int .u8 (d2.toNat : Int)] 5 m)) (some ⟨w2.heap.size, 0, none⟩) [92, 117, 48, 48, d1, d2]) := fun m => hide (litR w2 _ [92, 117, 48, 48, d1, d2] m rfl)
      have HLB : Hid (acc.length + [92, 117, 48, 48, d1, d2].length ≤ 140737488355328) := by show _ ≤ _; simp; omega
      have HBV : ∀ o, Hid (base ≤ (w2.alloc o).heap.size) := fun o => by have := uh HBr; show _ ≤ _; simp; omega
      have HCV : ∀ o, Hid (Cel (w2.alloc o) b 82 [.slice a1 acc.length c1]) := fun o => hide ((heap_alloc_old w2 o (uh HC).lt).trans (uh HC))
      have f0 := (uh HC).fr 0
      have HAL : Hid ((acc ++ [92, 117, 48, 48, d1, d2]).length ≤ 90000100) := by show _ ≤ _; simp; omega
      rw [EQ] at HE
      clear hfl EQ
      obtain ⟨V, hV⟩ : ∃ V, V = (w2.alloc (.cells #[.int .u8 92, .int .u8 117, .int .u8 48, .int .u8 48, .int .u8 (d1.toNat : Int), .int .u8 (d2.toNat : Int)] 5)).drew := ⟨_, rfl⟩
      have HOD : Hid (OwnB V base a1 c1 acc) := by rw [hV]; exact hide ((uh HO).below (bA _).drew (Nat.le_refl _))
      have HRD : Hid (Row V (some ⟨w2.heap.size, 0, none⟩) [92, 117, 48, 48, d1, d2]) := by rw [hV]; exact hide (litR w2 _ [92, 117, 48, 48, d1, d2] (0, 0) rfl)
      have HCD : Hid (Cel V b 82 [.slice a1 acc.length c1]) := by rw [hV]; exact hide ((heap_alloc_old w2 _ (uh HC).lt).trans (uh HC))
      have HbV : Hid (Below w2.heap.size w2 V) := by rw [hV]; exact hide (bA _).drew
      have HBD : Hid (base ≤ V.heap.size) := by rw [hV]; exact HBV _
      have hbl : b < w2.heap.size := (uh HC).lt
      go_wp2_with fail
      go_region_law (rw [← hV]; refine stp_app2 _ rfl _ _ rfl base a1 c1 acc _ rfl rfl (uh HOD) (some ⟨w2.heap.size, 0, none⟩) 6 [92, 117, 48, 48, d1, d2] _ rfl rfl (uh HRD) (fun e => by cases e) (uh HLB) (uh HBD) ?_; intro a3 c3 r w5 hr HO3 HG3 hloc3; have f2 : w5.frozen? ⟨b, 0, none⟩ = false := ((uh HCD).grown (uh HG3) (uh HN)).fr 0; have c2 := ((uh HCD).grown (uh HG3) (uh HN)).cell 0; simp only [List.getElem?_cons_zero] at c2)
      all_goals
       obtain ⟨k1, k2⟩ := pr_put (uh HBB) (uh HCD) (uh HOD) (uh HO3) (uh HG3)
       have H2' := hide ((uh H2).trans ((Pk.ofB (uh HbV)).trans k2))
       have HE' : Hid (qtL (l ++ [34]) s = qtL r (s.drop (i + 1))) := by show _ = _; rw [uh hr]; exact uh HE
       have HAL' : Hid (r.length ≤ 90000100) := by show _ ≤ _; rw [uh hr]; exact uh HAL
       have K1 := hide k1
       clear k1 k2
       go_wp2_with fail
       go_roundw
       case rel => exact ⟨i + 1, r, by omega, by go_num, uh HAL', K1, H2', HE'⟩
       case measure => simp [intOf]; omega
     ·have q32 : ¬ (c.toNat : Int) < 32 := by omega
      have EQ : qcB c = [c] := by unfold qcB; rw [if_neg hq, if_neg hq2]
      have HOV : ∀ o, Hid (OwnB (w2.alloc o) base a1 c1 acc) := fun o => hide ((uh HO).below ((Below.refl _ _).alloc (Nat.le_refl _) o) (Nat.le_refl _))
      have HRV : ∀ m, Hid (Row (w2.alloc (.cells #[.int .u8 (c.toNat : Int)] 5 m)) (some ⟨w2.heap.size, 0, none⟩) [c]) := fun m => hide (litR w2 _ [c] m rfl)
      have HLB : Hid (acc.length + [c].length ≤ 140737488355328) := by show _ ≤ _; simp; omega
      have HBV : ∀ o, Hid (base ≤ (w2.alloc o).heap.size) := fun o => by have := uh HBr; show _ ≤ _; simp; omega
      have HCV : ∀ o, Hid (Cel (w2.alloc o) b 82 [.slice a1 acc.length c1]) := fun o => hide ((heap_alloc_old w2 o (uh HC).lt).trans (uh HC))
      have f0 := (uh HC).fr 0
      have HAL : Hid ((acc ++ [c]).length ≤ 90000100) := by show _ ≤ _; simp; omega
      rw [EQ] at HE
      clear hfl EQ
      go_wp2_with (refine wp_app _ rfl _ _ rfl base a1 c1 acc rfl ?_ (some ⟨w2.heap.size, 0, none⟩) 1 [c] 1 rfl rfl ?_ ?_ ?_ ?_ ?_; exact uh (HOV _); exact uh (HRV _); exact (fun e => by cases e); exact uh HLB; exact uh (HBV _); intro a3 c3 r w5 hr hO3 hg3; have HO3 := hide hO3; have HG3 := hide hg3; have f2 : w5.frozen? ⟨b, 0, none⟩ = false := ((uh (HCV _)).grown hg3 (uh HN)).fr 0; have c2 := ((uh (HCV _)).grown hg3 (uh HN)).cell 0; simp only [List.getElem?_cons_zero] at c2; clear hO3 hg3)
      obtain ⟨k1, k2⟩ := pr_put (uh HBB) (uh (HCV _)) (uh (HOV _)) (uh HO3) (uh HG3)
      have H2' := hide ((uh H2).trans ((Pk.ofB (bA _)).trans k2))
      rw [hr.out] at k1 H2' ⊢
      go_roundw
      case rel => exact ⟨i + 1, _, by omega, by go_num, HAL.out, hide k1, H2', HE⟩
      case measure => simp [intOf]; omega
  ·have hlt' : ¬ (i : Int) < (s.length : Int) := by omega
   have HE : Hid (qtL (l ++ [34]) s = acc) := by show _ = _; rw [uh HS, List.drop_eq_nil_of_le (by omega)]; rfl
   have HQ := hide (put_any base b acc [34] wr (uh H1) (by simp; omega) (uh HBr))
   clear HS HF
   go_wp2_with fail
   refine (uh HQ).mono ?_
   rintro e w3 ⟨rfl, h3, h4⟩
   clear HQ
   go_wp2_with fail
   go_end0
   rw [uh HE]
   exact ⟨rfl, h3, hide ((uh H2).trans (uh h4))⟩
end Go.Proofs.YtmpjeahibfdehaaGreatDoor
end
section
set_option linter.unusedVariables false
set_option maxRecDepth 1000000
namespace Go.Proofs.YtmpjeahibfdehaaGreatDoor
open Go.RowKit Go.Extern.Stop Go.Stop Go.Extern

set_option maxHeartbeats 2000000 in
theorem isWhole_any (l : List UInt8) (w : World) (hT : Tb4 w) (hl : l.length ≤ 300000) :
  Calls Tryz.prog 146 #[.string (str l)] w fun e w' => e = .returned (.bool (decide (chr l = none))) ∧ Hid (Below w.heap.size w w') := by
 obtain ⟨V, c, hV, hbV, hBs⟩ := to_b4 l w hl
 have HC := hide (chars_any (some ⟨w.heap.size, 0, none⟩) l.length c l V (hT.below hbV) hBs rfl (by omega))
 have HB := hide hbV
 have HD : Hid (decide (chI l < 0) = decide (chr l = none)) := decide_eq_decide.2 (ch_neg l)
 obtain ⟨X, hX⟩ : ∃ X, X = chI l := ⟨_, rfl⟩
 rw [← hX] at HC HD
 clear hT hbV hBs hX
 go_enter Tryz.func146, Tryz.ntmps146
 go_wp2_with fail
 refine (uh HC).mono ?_
 rintro e w1 ⟨rfl, h1⟩
 have H1 : Hid (Below w.heap.size w w1) := (uh HB).trans (h1.mono (uh HB).size)
 clear h1 HC HB
 go_wp2_with fail
 go_ret
 refine ⟨?_, H1⟩
 rw [← uh HD]
 rfl
set_option maxHeartbeats 2000000 in
theorem isBroken_any (l : List UInt8) (w : World) (hT : Tb4 w) (hl : l.length ≤ 300000) :
  Calls Tryz.prog 148 #[.string (str l)] w fun e w' => e = .returned (.bool (!decide (chr l = none))) ∧ Hid (Below w.heap.size w w') := by
 have HW := hide (isWhole_any l w hT hl)
 obtain ⟨X, hX⟩ : ∃ X, X = decide (chr l = none) := ⟨_, rfl⟩
 rw [← hX] at HW ⊢
 clear hT hX
 go_enter Tryz.func148, Tryz.ntmps148
 go_wp2_with fail
 refine (uh HW).mono ?_
 rintro e w1 ⟨rfl, h1⟩
 go_wp2_with fail
 go_ret
 exact ⟨rfl, h1⟩
set_option maxHeartbeats 2000000 in
theorem holdsItems_any (k n : Int) (t x y : Value) (w : World) :
  Calls Tryz.prog 112 #[.agg #[.int .i64 k, .int .i64 n, t, x, y]] w fun e w' => e = .returned (.bool (decide (k = 4 ∨ k = 5))) ∧ Hid (Below w.heap.size w w') := by
 have HB : ∀ o, Hid (Below w.heap.size w (w.alloc o)) := fun o => hide ((Below.refl _ _).alloc (Nat.le_refl _) o)
 by_cases h4 : k = 4
 ·subst h4
  go_enter Tryz.func112, Tryz.ntmps112
  go_wp2_with fail
  go_ret
  exact ⟨by simp, HB _⟩
 ·have q4 : (k == 4) = false := by simpa using h4
  obtain ⟨X, hX⟩ : ∃ X, X = (k == 5) := ⟨_, rfl⟩
  have hd : decide (k = 4 ∨ k = 5) = X := by
   rw [hX]
   by_cases h5 : k = 5
   ·rw [decide_eq_true (.inr h5)]; simp [h5]
   ·rw [decide_eq_false (by omega)]; simp [h5]
  rw [hd]
  have q5 : (k == 5) = X := hX.symm
  clear hX hd
  go_enter Tryz.func112, Tryz.ntmps112
  go_wp2_with fail
  go_ret
  exact ⟨by simp, HB _⟩
theorem fmtBool_any (b : Bool) (w : World) :
  Calls Tryz.prog 91 #[.bool b] w fun e w' => e = .returned (.string (str (if b then [116, 114, 117, 101] else [102, 97, 108, 115, 101]))) ∧ w' = w := by
 have H : Calls Tryz.prog 130 #[.bool b] w fun e w' => e = .returned (.string (str (if b then [116, 114, 117, 101] else [102, 97, 108, 115, 101]))) ∧ w' = w := by
  cases b with
  | true =>
   go_enter Tryz.func130, Tryz.ntmps130
   go_wp2_with fail
   go_ret
   exact ⟨rfl, rfl⟩
  | false =>
   go_enter Tryz.func130, Tryz.ntmps130
   go_wp2_with fail
   go_ret
   exact ⟨rfl, rfl⟩
 obtain ⟨X, hX⟩ : ∃ X, X = (if b then [116, 114, 117, 101] else [102, 97, 108, 115, 101] : List UInt8) := ⟨_, rfl⟩
 rw [← hX] at H ⊢
 clear hX
 have HH := hide H
 clear H
 go_enter Tryz.func91, Tryz.ntmps91
 go_wp2_with fail
 refine (uh HH).mono ?_
 rintro e w1 ⟨rfl, rfl⟩
 go_wp2_with fail
 go_ret
 exact ⟨rfl, rfl⟩
end Go.Proofs.YtmpjeahibfdehaaGreatDoor
end
