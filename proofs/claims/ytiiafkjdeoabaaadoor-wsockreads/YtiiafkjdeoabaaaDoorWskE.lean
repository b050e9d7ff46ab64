/-
  wsock: Write, whatever the frame and the mask.
-/
import Derived.Test.YtiiafkjdeoabaaaDoorWskD
set_option linter.unusedVariables false
namespace Go.Proofs.YtiiafkjdeoabaaaDoor
open Go.RowKit

/-- What Write answers: the error, the bytes. -/
def wrE (op : Int) (fin : Bool) (m l : List UInt8) : Int := if m = [] ∨ m.length = 4 then (if mayB op fin (l.length : Int) = true then (if l.length ≤ 16384 then 0 else 4) else 90) else 1
def wrR (op : Int) (fin : Bool) (m l : List UInt8) : List UInt8 := if wrE op fin m l = 0 then wrB op.toNat fin m l else []

set_option maxHeartbeats 2000000 in
theorem write_any (op : Int) (fin : Bool) (x : Option Addr) (cx : Nat) (l : List UInt8) (b : Option Addr) (cb : Nat) (m : List UInt8) (w : World) (hL : Bs w x cx l) (hM : Bs w b cb m) :
    Calls Tryd.prog 11 #[.agg #[.bool fin, .int .i64 op, .slice x l.length cx], .slice b m.length cb] w fun e w' => ∃ a' c' r, e = .returned (.tuple #[.slice a' r.length c', .int .i64 (wrE op fin m l)]) ∧ Hid (r = wrR op fin m l) ∧ Hid (OwnB w' w.heap.size a' c' r) ∧ Hid (Below w.heap.size w w') := by
  have hlm := hL.le
  have hmost := hL.most
  have hmm := hM.le
  have hmmost := hM.most
  unfold maxLen at hmost hmmost
  by_cases hm : m = [] ∨ m.length = 4
  · by_cases hmay : mayB op fin (l.length : Int) = true
    · by_cases hl : l.length ≤ 16384
      · have hE : wrE op fin m l = 0 := by unfold wrE; rw [if_pos hm, if_pos hmay, if_pos hl]
        obtain ⟨n, rfl, hn⟩ := mayB_op hmay
        have hR : wrR (n : Int) fin m l = wrB n fin m l := by unfold wrR; rw [if_pos hE]; rfl
        rw [hE, hR]
        by_cases h125 : l.length ≤ 125
        · rcases hm with hm | hm
          · cases fin
            · exact write_fns n hn x cx l b cb m w hL hM hm hmay hl h125
            · exact write_tns n hn x cx l b cb m w hL hM hm hmay hl h125
          · cases fin
            · exact write_fms n hn x cx l b cb m w hL hM hm hmay hl h125
            · exact write_tms n hn x cx l b cb m w hL hM hm hmay hl h125
        · have h125' : 125 < l.length := by omega
          rcases hm with hm | hm
          · cases fin
            · exact write_fnl n hn x cx l b cb m w hL hM hm hmay hl h125'
            · exact write_tnl n hn x cx l b cb m w hL hM hm hmay hl h125'
          · cases fin
            · exact write_fml n hn x cx l b cb m w hL hM hm hmay hl h125'
            · exact write_tml n hn x cx l b cb m w hL hM hm hmay hl h125'
      · have hE : wrE op fin m l = 4 := by unfold wrE; rw [if_pos hm, if_pos hmay, if_neg hl]
        have HR : Hid ([] = wrR op fin m l) := by show _ = _; unfold wrR; rw [hE]; rfl
        rw [hE]
        have hl' : (16384 : Int) < (l.length : Int) := by omega
        have HMY := hide hmay
        clear hmay hL hM
        rcases hm with hm | hm
        · have hmz : ((m.length : Int) != 0) = false := by rw [hm]; rfl
          clear hm
          go_enter Tryd.func11, Tryd.ntmps11
          go_wp2_with fail
          refine (mayBe_any op fin (l.length : Int) _).mono ?_
          rintro e w2 ⟨rfl, hw2⟩
          rw [unhide HMY]
          subst hw2
          go_wp2
          go_ret2
          exact ⟨none, 0, [], rfl, HR, OwnB.nil _ _, (Below.refl _ _).alloc (Nat.le_refl _) _⟩
        · have hmz : ((m.length : Int) != 0) = true := by rw [hm]; rfl
          have hm4 : ((m.length : Int) != 4) = false := by rw [hm]; rfl
          clear hm
          go_enter Tryd.func11, Tryd.ntmps11
          go_wp2_with fail
          refine (mayBe_any op fin (l.length : Int) _).mono ?_
          rintro e w2 ⟨rfl, hw2⟩
          rw [unhide HMY]
          subst hw2
          go_wp2
          go_ret2
          exact ⟨none, 0, [], rfl, HR, OwnB.nil _ _, (Below.refl _ _).alloc (Nat.le_refl _) _⟩
    · have hE : wrE op fin m l = 90 := by unfold wrE; rw [if_pos hm, if_neg hmay]
      have HR : Hid ([] = wrR op fin m l) := by show _ = _; unfold wrR; rw [hE]; rfl
      rw [hE]
      have HMY : Hid (mayB op fin (l.length : Int) = false) := by show _ = _; simpa using hmay
      clear hmay hL hM
      rcases hm with hm | hm
      · have hmz : ((m.length : Int) != 0) = false := by rw [hm]; rfl
        clear hm
        go_enter Tryd.func11, Tryd.ntmps11
        go_wp2_with fail
        refine (mayBe_any op fin (l.length : Int) _).mono ?_
        rintro e w2 ⟨rfl, hw2⟩
        rw [unhide HMY]
        subst hw2
        go_wp2
        go_ret2
        exact ⟨none, 0, [], rfl, HR, OwnB.nil _ _, (Below.refl _ _).alloc (Nat.le_refl _) _⟩
      · have hmz : ((m.length : Int) != 0) = true := by rw [hm]; rfl
        have hm4 : ((m.length : Int) != 4) = false := by rw [hm]; rfl
        clear hm
        go_enter Tryd.func11, Tryd.ntmps11
        go_wp2_with fail
        refine (mayBe_any op fin (l.length : Int) _).mono ?_
        rintro e w2 ⟨rfl, hw2⟩
        rw [unhide HMY]
        subst hw2
        go_wp2
        go_ret2
        exact ⟨none, 0, [], rfl, HR, OwnB.nil _ _, (Below.refl _ _).alloc (Nat.le_refl _) _⟩
  · have hE : wrE op fin m l = 1 := by unfold wrE; rw [if_neg hm]
    have HR : Hid ([] = wrR op fin m l) := by show _ = _; unfold wrR; rw [hE]; rfl
    rw [hE]
    have hmz : ((m.length : Int) != 0) = true := by
      simp only [bne_iff_ne, ne_eq]
      intro h
      exact hm (.inl (List.eq_nil_of_length_eq_zero (by omega)))
    have hm4 : ((m.length : Int) != 4) = true := by
      simp only [bne_iff_ne, ne_eq]
      intro h
      exact hm (.inr (by omega))
    clear hm hL hM
    go_enter Tryd.func11, Tryd.ntmps11
    go_wp2
    go_ret2
    exact ⟨none, 0, [], rfl, HR, OwnB.nil _ _, (Below.refl _ _).alloc (Nat.le_refl _) _⟩
#print axioms write_any
end Go.Proofs.YtiiafkjdeoabaaaDoor
