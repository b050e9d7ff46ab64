/-
  A row that lists variables, with the world's shape kept for the contract: what a library's variable that the row does not list holds is some number.
-/
import Derived.Test.YtmpjeahibfdehaaGreatDoorPkMtesab
import Derived.HandedShaped
import Derived.Shelf.Vars
section
set_option linter.unusedVariables false
namespace Go.Proofs.YtmpjeahibfdehaaGreatDoor
open Go

theorem handed_laid_shaped {H : Type} {enc : TypeId × Value → H} {C : Checked} {os : Os} {f : FuncId} {fn : Func} {s : ChangeSpec} {fr ho ag : Bool} {X : World → Array Value → Prop}
  (hX : ∀ (u v : World) (z : Array Value), u.heap = v.heap → X u z → X v z) (hown : ownKnob C.prog.godebug = none) (hst : os.Started) (hno : C.prog.inits.idxOf? f = none) (hfn : C.prog.funcs[f]? = some fn)
  (wit : ∃ (w : World) (t : Tape) (i : Input), w.os = os ∧ (w.forCall t i).Shaped C.prog ∧ i.vars = [] ∧ Input.okWide C.prog (w.forCall t i) .any w.heap.size f i ∧
   ((s.pre enc C.prog fn [] false (w.forCall t i).memory i.args ∧ X (w.forCall t i).memory i.args) ∧ sizedMet enc C.prog fn (OpenSpec.ofChange s) false (w.forCall t i).memory i.args) ∧ Assume.holds {} C.prog (lone (Frame.enter C.prog f i.args .normal) [] (w.forCall t i)))
  (con : ∀ (W : World) (base : Nat) (args : Array Value) (ds gs : List (DataW H)) (before : List MemPlace), (∀ (j : Nat) t v, fn.params[j]? = some t → args[j]? = some v → Value.okWide C.prog W .any base t v) →
   DataW.Whole enc C.prog fn.params.toList s.vars false W args.toList ds gs before → (DataW.weightsEach C.prog (fn.params.toList ++ s.plain.varTypes C.prog) (ds ++ gs)).all (· ≤ reachBytes) = true → X W args → W.ShapedOpen C.prog →
   Calls C.prog f args W fun e W' => ∃ v, e = .returned v ∧ s.post enc C.prog fn false fr ho ag W args v W') :
  ReturnsInHanded {} C os f .any (fun w z => (s.pre enc C.prog fn [] false w z ∧ X w z) ∧ sizedMet enc C.prog fn (OpenSpec.ofChange s) false w z) (s.post enc C.prog fn false fr ho ag) := by
 refine returnsInHanded_of_calls hown hst hno wit ?_
 intro w t i _ hsh _ hok hp _
 obtain ⟨_, _, _, g, hg, _, _, _, _, hv⟩ := hok
 obtain rfl : g = fn := Option.some.inj (hg.symm.trans hfn)
 obtain ⟨⟨⟨ds, gs, bf, hw, hc⟩, hx⟩, hz⟩ := hp
 have hw2 := DataW.Whole.of_heap (w' := w.forCall t i) (by rfl) hw
 refine (con _ _ _ ds gs bf hv hw2 (hz.weights hw) (hX _ _ _ (by rfl) hx) hsh).mono ?_
 rintro e W' ⟨v, rfl, h⟩
 exact ChangeSpec.post_blind h
end Go.Proofs.YtmpjeahibfdehaaGreatDoor
end
