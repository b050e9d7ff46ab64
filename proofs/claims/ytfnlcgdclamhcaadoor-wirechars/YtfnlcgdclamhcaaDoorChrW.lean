/-
  THE WALK of the reference's char.
-/
import Derived.Test.YtfnlcgdclamhcaaDoorFstM
import Derived.Test.YtfnlcgdclamhcaaDoorSlc
import Derived.WalkSpells
import Derived.WalkLawsBesides
set_option linter.unusedVariables false
namespace Go.Proofs.YtfnlcgdclamhcaaDoor
open Go.RowKit

theorem row_cs (w : World) (cs : List UInt8) (zs : List Value) (h : zs = cs.map fun c => Value.int .u8 (c.toNat : Int)) : Row (w.alloc (.cells zs.toArray 5)) (some ⟨w.heap.size, 0, none⟩) cs := by
  subst h
  intro _
  refine ⟨w.heap.size, 0, rfl, fun i hi => ?_⟩
  rw [cell_of_row _ w.heap.size (0 + i) _ _ _ (heap_alloc_new w _)]
  simp [hi]

theorem u8n {x : Nat} (h : x < 256) : ((UInt8.ofNat x).toNat : Int) = (x : Int) := by simp; omega
theorem u8c (x : Nat) (h : x < 256) : ∃ c : UInt8, UInt8.ofNat x = c ∧ (x : Int) % 256 = (c.toNat : Int) := ⟨_, rfl, by rw [u8n h]; omega⟩

set_option maxRecDepth 1000000 in
set_option maxHeartbeats 1000000 in
theorem char_any (V : Nat) (w : World) (hV : V ≤ 1114111) :
    Calls Tryd.prog 14 #[.int .i64 (V : Int)] w fun e w' => ∃ a', e = .returned (.slice a' (encL V).length (encL V).length) ∧ Row w' a' (encL V) ∧ Below w.heap.size w w' := by
  by_cases h1 : V < 128
  · have he : encL V = [UInt8.ofNat V] := by unfold encL; rw [if_pos h1]
    obtain ⟨c0, e0, w0⟩ := u8c V (by omega)
    rw [he, e0]
    have x0 : Hid ((V : Int) = (c0.toNat : Int)) := by show _ = _; have := w0; omega
    clear he e0 hV w0
    have hb := hide ((Below.refl w.heap.size w).alloc (Nat.le_refl _) (.cells #[.int .u8 (c0.toNat : Int)] 5))
    have hr := hide (row_cs w [c0] _ rfl)
    go_enter Tryd.func14, Tryd.ntmps14
    go_wp2
    go_ret
    exact ⟨_, rfl, by rw [unhide x0]; exact unhide hr, by rw [unhide x0]; exact unhide hb⟩
  · by_cases h2 : V < 2048
    · have he : encL V = [UInt8.ofNat (192 + V / 64), UInt8.ofNat (128 + V % 64)] := by unfold encL; rw [if_neg h1, if_pos h2]
      rw [he]
      obtain ⟨q, hq⟩ : ∃ x : Nat, x = V / 64 := ⟨_, rfl⟩
      obtain ⟨r, hr⟩ : ∃ x : Nat, x = V % 64 := ⟨_, rfl⟩
      have hq1 : (V : Int) / 64 = (q : Int) := by omega
      have hq2 : (V : Int).tdiv 64 = (q : Int) := by rw [hq]; rfl
      have hql : q < 32 := by omega
      have hr1 : (V : Int) % 64 = (r : Int) := by omega
      have hr2 : (V : Int).tmod 64 = (r : Int) := by rw [hr]; rfl
      have hrl : r < 64 := by omega
      rw [← hq, ← hr]
      obtain ⟨c0, e0, w0⟩ := u8c (192 + q) (by omega)
      obtain ⟨c1, e1, w1⟩ := u8c (128 + r) (by omega)
      rw [e0, e1]
      have x0 : Hid (192 + (q : Int) = (c0.toNat : Int)) := by show _ = _; have := w0; omega
      have x1 : Hid (128 + (r : Int) = (c1.toNat : Int)) := by show _ = _; have := w1; omega
      clear he hV e0 w0 e1 w1 hq hr
      have hb := hide ((Below.refl w.heap.size w).alloc (Nat.le_refl _) (.cells #[.int .u8 (c0.toNat : Int), .int .u8 (c1.toNat : Int)] 5))
      have hr := hide (row_cs w [c0, c1] _ rfl)
      go_enter Tryd.func14, Tryd.ntmps14
      go_wp2
      go_ret
      exact ⟨_, rfl, by rw [unhide x0, unhide x1]; exact unhide hr, by rw [unhide x0, unhide x1]; exact unhide hb⟩
    · by_cases h3 : V < 65536
      · have he : encL V = [UInt8.ofNat (224 + V / 4096), UInt8.ofNat (128 + V / 64 % 64), UInt8.ofNat (128 + V % 64)] := by unfold encL; rw [if_neg h1, if_neg h2, if_pos h3]
        rw [he]
        obtain ⟨p, hp⟩ : ∃ x : Nat, x = V / 4096 := ⟨_, rfl⟩
        obtain ⟨q, hq⟩ : ∃ x : Nat, x = V / 64 := ⟨_, rfl⟩
        obtain ⟨s, hs⟩ : ∃ x : Nat, x = q % 64 := ⟨_, rfl⟩
        obtain ⟨r, hr⟩ : ∃ x : Nat, x = V % 64 := ⟨_, rfl⟩
        have hp1 : (V : Int) / 4096 = (p : Int) := by omega
        have hp2 : (V : Int).tdiv 4096 = (p : Int) := by rw [hp]; rfl
        have hpl : p < 16 := by omega
        have hq1 : (V : Int) / 64 = (q : Int) := by omega
        have hq2 : (V : Int).tdiv 64 = (q : Int) := by rw [hq]; rfl
        have hql : q < 1024 := by omega
        have hs1 : (q : Int) % 64 = (s : Int) := by omega
        have hs2 : (q : Int).tmod 64 = (s : Int) := by rw [hs]; rfl
        have hsl : s < 64 := by omega
        have hr1 : (V : Int) % 64 = (r : Int) := by omega
        have hr2 : (V : Int).tmod 64 = (r : Int) := by rw [hr]; rfl
        have hrl : r < 64 := by omega
        rw [← hp, ← hq, ← hs, ← hr]
        obtain ⟨c0, e0, w0⟩ := u8c (224 + p) (by omega)
        obtain ⟨c1, e1, w1⟩ := u8c (128 + s) (by omega)
        obtain ⟨c2, e2, w2⟩ := u8c (128 + r) (by omega)
        rw [e0, e1, e2]
        have x0 : Hid (224 + (p : Int) = (c0.toNat : Int)) := by show _ = _; have := w0; omega
        have x1 : Hid (128 + (s : Int) = (c1.toNat : Int)) := by show _ = _; have := w1; omega
        have x2 : Hid (128 + (r : Int) = (c2.toNat : Int)) := by show _ = _; have := w2; omega
        clear he hV e0 w0 e1 w1 e2 w2 hp hq hs hr
        have hb := hide ((Below.refl w.heap.size w).alloc (Nat.le_refl _) (.cells #[.int .u8 (c0.toNat : Int), .int .u8 (c1.toNat : Int), .int .u8 (c2.toNat : Int)] 5))
        have hr := hide (row_cs w [c0, c1, c2] _ rfl)
        go_enter Tryd.func14, Tryd.ntmps14
        go_wp2
        go_ret
        exact ⟨_, rfl, by rw [unhide x0, unhide x1, unhide x2]; exact unhide hr, by rw [unhide x0, unhide x1, unhide x2]; exact unhide hb⟩
      · have he : encL V = [UInt8.ofNat (240 + V / 262144), UInt8.ofNat (128 + V / 4096 % 64), UInt8.ofNat (128 + V / 64 % 64), UInt8.ofNat (128 + V % 64)] := by unfold encL; rw [if_neg h1, if_neg h2, if_neg h3]
        rw [he]
        obtain ⟨o, ho⟩ : ∃ x : Nat, x = V / 262144 := ⟨_, rfl⟩
        obtain ⟨p, hp⟩ : ∃ x : Nat, x = V / 4096 := ⟨_, rfl⟩
        obtain ⟨t, ht⟩ : ∃ x : Nat, x = p % 64 := ⟨_, rfl⟩
        obtain ⟨q, hq⟩ : ∃ x : Nat, x = V / 64 := ⟨_, rfl⟩
        obtain ⟨s, hs⟩ : ∃ x : Nat, x = q % 64 := ⟨_, rfl⟩
        obtain ⟨r, hr⟩ : ∃ x : Nat, x = V % 64 := ⟨_, rfl⟩
        have ho1 : (V : Int) / 262144 = (o : Int) := by omega
        have ho2 : (V : Int).tdiv 262144 = (o : Int) := by rw [ho]; rfl
        have hol : o < 8 := by omega
        have hp1 : (V : Int) / 4096 = (p : Int) := by omega
        have hp2 : (V : Int).tdiv 4096 = (p : Int) := by rw [hp]; rfl
        have hpl : p < 512 := by omega
        have ht1 : (p : Int) % 64 = (t : Int) := by omega
        have ht2 : (p : Int).tmod 64 = (t : Int) := by rw [ht]; rfl
        have htl : t < 64 := by omega
        have hq1 : (V : Int) / 64 = (q : Int) := by omega
        have hq2 : (V : Int).tdiv 64 = (q : Int) := by rw [hq]; rfl
        have hql : q < 32768 := by omega
        have hs1 : (q : Int) % 64 = (s : Int) := by omega
        have hs2 : (q : Int).tmod 64 = (s : Int) := by rw [hs]; rfl
        have hsl : s < 64 := by omega
        have hr1 : (V : Int) % 64 = (r : Int) := by omega
        have hr2 : (V : Int).tmod 64 = (r : Int) := by rw [hr]; rfl
        have hrl : r < 64 := by omega
        rw [← ho, ← hp, ← ht, ← hq, ← hs, ← hr]
        obtain ⟨c0, e0, w0⟩ := u8c (240 + o) (by omega)
        obtain ⟨c1, e1, w1⟩ := u8c (128 + t) (by omega)
        obtain ⟨c2, e2, w2⟩ := u8c (128 + s) (by omega)
        obtain ⟨c3, e3, w3⟩ := u8c (128 + r) (by omega)
        rw [e0, e1, e2, e3]
        have x0 : Hid (240 + (o : Int) = (c0.toNat : Int)) := by show _ = _; have := w0; omega
        have x1 : Hid (128 + (t : Int) = (c1.toNat : Int)) := by show _ = _; have := w1; omega
        have x2 : Hid (128 + (s : Int) = (c2.toNat : Int)) := by show _ = _; have := w2; omega
        have x3 : Hid (128 + (r : Int) = (c3.toNat : Int)) := by show _ = _; have := w3; omega
        clear he hV e0 w0 e1 w1 e2 w2 e3 w3 ho hp ht hq hs hr
        have hb := hide ((Below.refl w.heap.size w).alloc (Nat.le_refl _) (.cells #[.int .u8 (c0.toNat : Int), .int .u8 (c1.toNat : Int), .int .u8 (c2.toNat : Int), .int .u8 (c3.toNat : Int)] 5))
        have hr := hide (row_cs w [c0, c1, c2, c3] _ rfl)
        go_enter Tryd.func14, Tryd.ntmps14
        go_wp2
        go_ret
        exact ⟨_, rfl, by rw [unhide x0, unhide x1, unhide x2, unhide x3]; exact unhide hr, by rw [unhide x0, unhide x1, unhide x2, unhide x3]; exact unhide hb⟩
#print axioms char_any
end Go.Proofs.YtfnlcgdclamhcaaDoor
