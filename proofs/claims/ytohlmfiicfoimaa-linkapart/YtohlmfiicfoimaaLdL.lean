/-
  LinkGone: THE WALK.
-/
import Derived.Test.YtohlmfiicfoimaaLdK
import Derived.Test.YtohlmfiicfoimaaOwnI
set_option linter.unusedVariables false
set_option maxRecDepth 100000
namespace Go.Proofs.Ytohlmfiicfoimaa
open Go.RowKit Go.Maps

set_option maxHeartbeats 1000000 in
theorem index_out (a : Option Addr) (c : Nat) (l : List Int) (x : Int) (w : World) (hr : IRow w a l) (hl : l.length ≤ 1000000) (hx : x ∉ l) :
    Calls Try.prog 47 #[.slice a l.length c, .int .i64 x] w fun e w' => e = .returned (.int .i64 (-1)) ∧ w' = w := by
  have HR := hide hr
  have HX := hide hx
  clear hr hx
  go_enter Try.func47, Try.ntmps47
  go_wp2
  go_loop [8] (fun v => ∃ k : Nat, k ≤ l.length ∧ v = .int .i64 (k : Int)) (fun v => l.length + 1 - (intOf v).toNat)
  case atStart => exact ⟨0, Nat.zero_le _, rfl⟩
  case round =>
    obtain ⟨k, hk, rfl⟩ := hrel
    by_cases hlt : k < l.length
    · obtain ⟨z, hz⟩ : ∃ z, l[k]? = some z := ⟨l[k]'hlt, List.getElem?_eq_getElem hlt⟩
      obtain ⟨b, off, hb, hc⟩ := unhide HR (by intro e; subst e; simp at hlt)
      subst hb
      have ck := hc k z hz
      have hkl : (k : Int) < (l.length : Int) := by omega
      have hne : (x == z) = false := by
        simp
        intro e
        exact unhide HX (e ▸ List.mem_of_getElem? hz)
      clear hc hz
      go_wp2
      go_round
      case rel => exact ⟨k + 1, by omega, by go_num⟩
      case measure => simp [intOf]; omega
    · obtain rfl : k = l.length := by omega
      go_wp2
      go_ret
      exact ⟨rfl, rfl⟩
set_option maxHeartbeats 1000000 in
theorem contains_out (a : Option Addr) (c : Nat) (l : List Int) (x : Int) (w : World) (hr : IRow w a l) (hl : l.length ≤ 1000000) (hx : x ∉ l) :
    Calls Try.prog 19 #[.slice a l.length c, .int .i64 x] w fun e w' => e = .returned (.bool false) ∧ w' = w := by
  have HI := hide (index_out a c l x w hr hl hx)
  clear hr hx
  go_enter Try.func19, Try.ntmps19
  go_wp2_with (go_at_call 47; refine (unhide HI).mono ?_; rintro e w1 ⟨rfl, rfl⟩)
  go_ret
  exact ⟨rfl, rfl⟩
#print axioms contains_out

/-- The numbers of a node's connections. -/
def goneL (l : List Cn) (node : Int) : List Nat := (l.filter fun c => !decide (c.side node < 0)).map fun c => c.id
theorem goneL_len (l : List Cn) (node : Int) : (goneL l node).length + (l.filter fun c => decide (c.side node < 0)).length = l.length := by
  unfold goneL
  rw [List.length_map]
  induction l with
  | nil => rfl
  | cons a r ih =>
    simp only [List.filter_cons]
    cases h : decide (a.side node < 0) <;> simp <;> omega
theorem goneL_drop (M : Nm) (hM : Mok M) (node : Int) {i : Nat} (hi : i ∈ goneL M.cs node) : Gn (drM M node) (i : Int) := by
  unfold goneL at hi
  obtain ⟨c, hc, rfl⟩ := List.mem_map.1 hi
  obtain ⟨h1, h2⟩ := List.mem_filter.1 hc
  refine ⟨?_, ?_⟩
  · rw [get_none_iff]
    intro d hd e
    obtain ⟨h3, h4⟩ := List.mem_filter.1 hd
    obtain rfl := hM.inj h3 h1 (by omega)
    rw [h4] at h2
    cases h2
  · have := hM.top c h1
    show (c.id : Int) ≤ (M.last : Int)
    omega
theorem side_iff (c : Cn) (node : Int) : (!decide (c.side node < 0)) = (c.p == node || c.q == node) := by
  unfold Cn.side
  by_cases h1 : c.p = node
  · simp [h1]
  · by_cases h2 : c.q = node
    · simp [h1, h2]
    · simp [h1, h2]
theorem goneL_snoc (l : List Cn) (c : Cn) (node : Int) : goneL (l ++ [c]) node = goneL l node ++ (if (!decide (c.side node < 0)) = true then [c.id] else []) := by
  unfold goneL
  rw [List.filter_append, List.map_append]
  cases h : (!decide (c.side node < 0)) <;> simp [h]
/-- A row of ints that a call made, where blocks of Z stay. -/
theorem OwnI.zs {w w' : World} {base : Nat} {a : Option Addr} {cap : Nat} {l : List Nat} {Z : Nat → Prop} (h : OwnI w base a cap l) (hz : ZS w w' Z) (hb : ∀ g, blk a = Option.some g → Z g) : OwnI w' base a cap l := by
  refine ⟨h.1, ?_⟩
  rcases h.2 with hn | ⟨g, cap, cur, hv, hbb, hgg, rest⟩
  · exact .inl hn
  · refine .inr ⟨g, cap, cur, hv, hbb, ?_, rest⟩
    have e : blk a = Option.some g := by simp only [Value.slice.injEq] at hv; rw [hv.1]; rfl
    rw [hz.2 g (hb g e)]
    exact hgg
/-- A round of the calls that are gone through. -/
theorem does_round {w0 wr : World} {N bm X : Nat} {M : Nm} {k : Nat} {Z : Nat → Prop} (h : NQ w0 wr N bm X M M (k * 262144) Z) (hM : Mok M) (hl : M.last < 1000000) (hk : k ≤ 400) (d : Dl) (x : Option Addr) (c : Nat) (hd : DlV w0 d x c) (hlen : d.l.length ≤ 262144) (o : Obj) :
    Calls Try.prog 9 #[.pointer (some ⟨N, 0, none⟩), .pointer (some ⟨X, 0, none⟩), .agg #[.int .i64 d.o, .int .i64 d.i, .int .i64 d.a, .int .i64 d.b, .slice x d.l.length c]] (wr.alloc o) fun e w' => e = .returned (.bool true) ∧ Hid (NQ w0 w' N bm X (stM M d) (stM M d) ((k + 1) * 262144) Z) ∧ Hid (ZS wr w' Z) := by
  have hb : Below wr.heap.size wr (wr.alloc o) := (Below.refl _ _).alloc (Nat.le_refl _) _
  refine (does_any (h.below hb) hM hl (by omega) d x c hd hlen).mono ?_
  rintro e w' ⟨rfl, h1, h2⟩
  refine ⟨rfl, (unhide h1).up (by omega), (ZS.of h hb).trans (unhide h2)⟩
#print axioms does_round
end Go.Proofs.Ytohlmfiicfoimaa
