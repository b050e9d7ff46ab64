/-
  THE WALKS of Cursor.Byte, and of a cursor that no call made.
-/
import Derived.Test.YthpalohjjkmhdaaCurX
set_option linter.unusedVariables false
namespace Go.Proofs.Ythpalohjjkmhdaa
open Go.RowKit

/-- What Byte answers: the byte, the error's number, how many bytes were read. -/
def by1 (l : List UInt8) : Nat × Nat × Nat := match l with | [] => (0, 2, 0) | c :: _ => (c.toNat, 0, 1)

set_option maxHeartbeats 1000000 in
/-- Cursor.Byte. -/
theorem cbyte_any (C : Nat) (a : Option Addr) (cap : Nat) (l : List UInt8) (at' : Nat) (w : World) (hC : Cur w C a cap l at') :
    Calls Try.prog 16 #[.pointer (some ⟨C, 0, none⟩)] w fun e w' => ∃ N E S : Nat, e = .returned (.tuple #[.int .i64 (N : Int), .int .i64 (E : Int)]) ∧ Hid ((N, E, S) = by1 (l.drop at')) ∧ Cur w' C a cap l (at' + S) ∧ w.grownBy w' (some C) := by
  have hsm := hC.small
  have hle := hC.le
  by_cases hlt : at' < l.length
  · have hnz : (((l.length - at' : Nat) : Int) == 0) = false := by rw [beq_eq_false_iff_ne]; omega
    have hnp : (0 : Int) < ((l.length - at' : Nat) : Int) := by omega
    go_enter Try.func16, Try.ntmps16
    go_wp2_with fail
    refine (unmade_made C a cap l at' w hC).mono ?_
    rintro e w0 ⟨rfl, rfl⟩
    go_wp2_with fail
    refine (left_any C a cap l at' _ hC).mono ?_
    rintro e w1 ⟨a1, nd, rfl, hB1, hba1, rfl⟩
    have hC1 := hC.drewN nd
    have h0 := hC1.c0
    have hf := hC1.fr 0
    have HM := hide (hC1.moved (at' + 1) (by omega) ((at' : Int) + 1) (by omega))
    have hl1 : l ≠ [] := by intro e; subst e; simp at hlt
    have hnC : blk a1 ≠ some C := by rw [hba1]; exact hC.ne hl1
    obtain ⟨b, off, rfl, _⟩ := hB1.row (by intro e; have := congrArg List.length e; simp at this; omega)
    have hBm := hide (hB1.grown (grownBy_set (w0.drewN nd) ⟨C, 0, none⟩ (.int .i64 ((at' : Int) + 1))) (.inr hnC))
    have hG := hide (grownBy_trans (grownBy_drewN w0 nd (some C)) (grownBy_set (w0.drewN nd) ⟨C, 0, none⟩ (.int .i64 ((at' : Int) + 1))))
    clear hnC hba1
    go_wp2_with fail
    refine (forward_any C (at' : Int) 1 _ h0 hf (by omega) (by omega) (by omega) (by omega)).mono ?_
    rintro e w3 ⟨rfl, hw3⟩
    have hBm2 := unhide hBm
    have hG2 := unhide hG
    have HM2 := unhide HM
    rw [← hw3] at hBm2 hG2 HM2
    clear hw3 h0 hf hC1 hB1 hBm hG HM
    obtain ⟨c, t, hct⟩ : ∃ c t, l.drop at' = c :: t := by
      cases hd : l.drop at' with
      | nil => have := congrArg List.length hd; simp at this; omega
      | cons c t => exact ⟨c, t, rfl⟩
    have hBy : Hid ((c.toNat, 0, 1) = by1 (l.drop at')) := by show _ = _; rw [hct]; rfl
    obtain ⟨b', off', hh, hcell⟩ := hBm2.row (by rw [hct]; simp)
    obtain ⟨rfl, rfl⟩ : b = b' ∧ off = off' := by simpa using Option.some.inj hh
    have hc0 := hcell 0 (by rw [hct]; simp)
    rw [hct] at hc0
    have hc0' : w3.cell? ⟨b, off, none⟩ = some (.int .u8 (c.toNat : Int)) := by simpa using hc0
    have hcl : c.toNat < 256 := c.toNat_lt
    clear hct hcell hc0 hh
    generalize c.toNat = x at *
    go_wp2
    go_ret2
    exact ⟨x, 0, 1, rfl, hBy, HM2, hG2⟩
  · have hz : l.length - at' = 0 := by omega
    have hBy : Hid ((0, 2, 0) = by1 (l.drop at')) := by show _ = _; rw [List.drop_of_length_le (by omega)]; rfl
    go_enter Try.func16, Try.ntmps16
    go_wp2_with fail
    refine (unmade_made C a cap l at' w hC).mono ?_
    rintro e w0 ⟨rfl, rfl⟩
    go_wp2_with fail
    refine (left_any C a cap l at' _ hC).mono ?_
    rintro e w1 ⟨a1, nd, rfl, hB1, hba1, rfl⟩
    have hC1 := hC.drewN nd
    go_wp2
    go_ret2
    exact ⟨0, 2, 0, rfl, hBy, hC1, grownBy_drewN _ nd _⟩

/-- A pointer to no cursor, or to one that no call made. -/
def NoCur (w : World) (p : Option Addr) : Prop := p = none ∨ ∃ Z, p = some ⟨Z, 0, none⟩ ∧ w.cell? ⟨Z, 2, none⟩ = some (.bool false)

theorem unmade_not (p : Option Addr) (w : World) (h : NoCur w p) :
    Calls Try.prog 34 #[.pointer p] w fun e w' => e = .returned (.bool true) ∧ w' = w := by
  rcases h with rfl | ⟨Z, rfl, h2⟩
  · go_enter Try.func34, Try.ntmps34
    go_wp2
    go_ret
    exact ⟨rfl, rfl⟩
  · go_enter Try.func34, Try.ntmps34
    go_wp2
    go_ret
    exact ⟨rfl, rfl⟩

theorem nbyte (p : Option Addr) (w : World) (h : NoCur w p) :
    Calls Try.prog 16 #[.pointer p] w fun e w' => e = .returned (.tuple #[.int .i64 0, .int .i64 8]) ∧ w' = w := by
  go_enter Try.func16, Try.ntmps16
  go_wp2_with fail
  refine (unmade_not p w h).mono ?_
  rintro e w0 ⟨rfl, rfl⟩
  go_wp2
  go_ret2
  exact ⟨rfl, rfl⟩
theorem nnumber (p : Option Addr) (w : World) (h : NoCur w p) :
    Calls Try.prog 18 #[.pointer p] w fun e w' => e = .returned (.tuple #[.int .i64 0, .int .i64 8]) ∧ w' = w := by
  go_enter Try.func18, Try.ntmps18
  go_wp2_with fail
  refine (unmade_not p w h).mono ?_
  rintro e w0 ⟨rfl, rfl⟩
  go_wp2
  go_ret2
  exact ⟨rfl, rfl⟩
theorem ntext (p : Option Addr) (m : Int) (w : World) (h : NoCur w p) :
    Calls Try.prog 20 #[.pointer p, .int .i64 m] w fun e w' => e = .returned (.tuple #[.string ⟨#[]⟩, .int .i64 8]) ∧ w' = w := by
  go_enter Try.func20, Try.ntmps20
  go_wp2_with fail
  refine (unmade_not p w h).mono ?_
  rintro e w0 ⟨rfl, rfl⟩
  go_wp2
  go_ret2
  exact ⟨rfl, rfl⟩
theorem nend (p : Option Addr) (w : World) (h : NoCur w p) :
    Calls Try.prog 22 #[.pointer p] w fun e w' => e = .returned (.int .i64 8) ∧ w' = w := by
  go_enter Try.func22, Try.ntmps22
  go_wp2_with fail
  refine (unmade_not p w h).mono ?_
  rintro e w0 ⟨rfl, rfl⟩
  go_wp2
  go_ret
  exact ⟨rfl, rfl⟩
theorem nat0 (p : Option Addr) (w : World) (h : NoCur w p) :
    Calls Try.prog 24 #[.pointer p] w fun e w' => e = .returned (.int .i64 0) ∧ w' = w := by
  go_enter Try.func24, Try.ntmps24
  go_wp2_with fail
  refine (unmade_not p w h).mono ?_
  rintro e w0 ⟨rfl, rfl⟩
  go_wp2
  go_ret
  exact ⟨rfl, rfl⟩
theorem nrest (p : Option Addr) (w : World) (h : NoCur w p) :
    Calls Try.prog 23 #[.pointer p] w fun e w' => e = .returned (.slice none 0 0) ∧ w' = w := by
  go_enter Try.func23, Try.ntmps23
  go_wp2_with fail
  refine (unmade_not p w h).mono ?_
  rintro e w0 ⟨rfl, rfl⟩
  go_wp2
  go_ret
  exact ⟨rfl, rfl⟩
#print axioms cbyte_any
#print axioms nrest
end Go.Proofs.Ythpalohjjkmhdaa
