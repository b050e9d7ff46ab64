/-
  link, the plain model's calls, and that they keep it in order.
-/
import Derived.Test.YtohlmfiicfoimaaLtA
set_option linter.unusedVariables false
namespace Go.Proofs.Ytohlmfiicfoimaa
open Go.RowKit Go.Maps

def Cn.at (c : Cn) (node : Int) : Nat := (c.side node).toNat
/-- One connection is another one. -/
def Nm.set (M : Nm) (c : Cn) : Nm := { M with cs := M.cs.map fun d => if d.id = c.id then c else d }
def Nm.keep (M : Nm) : Nm := { M with cs := M.cs.filter Cn.live }
def sdE (M : Nm) (id node : Int) (n : Nat) : Int := match M.get id with
  | none => 30
  | some c => if c.side node < 0 then 1 else if c.c (c.at node) = true then 31 else if 131072 < (c.L (1 - c.at node)).length + n then 7 else 0
def sdM (M : Nm) (id node : Int) (lb : List UInt8) : Nm := match M.get id with
  | none => M
  | some c => if sdE M id node lb.length = 0 then M.set (c.rows (1 - c.at node) (c.L (1 - c.at node) ++ lb)) else M
def crE (M : Nm) (id node m : Int) : Int := match M.get id with
  | none => 30
  | some c => if c.side node < 0 ∨ m < 0 then 1 else 0
def crN (c : Cn) (node m : Int) : Nat := min m.toNat (c.L (c.at node)).length
def crB (M : Nm) (id node m : Int) : List UInt8 := match M.get id with
  | none => []
  | some c => if crE M id node m = 0 then (c.L (c.at node)).take (crN c node m) else []
def crM (M : Nm) (id node m : Int) : Nm := match M.get id with
  | none => M
  | some c => if crE M id node m = 0 then (M.set (c.rows (c.at node) ((c.L (c.at node)).drop (crN c node m)))).keep else M
def clE (M : Nm) (id node : Int) : Int := match M.get id with
  | none => 30
  | some c => if c.side node < 0 then 1 else if c.c (c.at node) = true then 31 else 0
def clM (M : Nm) (id node : Int) : Nm := match M.get id with
  | none => M
  | some c => if clE M id node = 0 then (M.set (c.shut (c.at node))).keep else M
def cuE (M : Nm) (id : Int) : Int := match M.get id with
  | none => 30
  | some _ => 0
def cuM (M : Nm) (id : Int) : Nm := match M.get id with
  | none => M
  | some _ => { M with cs := M.cs.filter fun c => decide ((c.id : Int) ≠ id) }
def diBad (a b : Int) : Prop := a = b ∨ ¬ (0 ≤ a ∧ a < 16) ∨ ¬ (0 ≤ b ∧ b < 16)
instance (a b : Int) : Decidable (diBad a b) := by unfold diBad; infer_instance
def diE (M : Nm) (a b : Int) : Int := if diBad a b then 1 else if 64 ≤ M.cs.length then 7 else 0
def diN (M : Nm) (a b : Int) : Int := if diE M a b = 0 then (M.last : Int) + 1 else 0
def newC (i : Nat) (a b : Int) : Cn := ⟨i, a, b, fun _ => false, fun _ => []⟩
def diM (M : Nm) (a b : Int) : Nm := if diE M a b = 0 then ⟨M.cs ++ [newC (M.last + 1) a b], M.last + 1⟩ else M
def drM (M : Nm) (node : Int) : Nm := { M with cs := M.cs.filter fun c => decide (c.side node < 0) }
def drN (M : Nm) (node : Int) : Int := (M.cs.length : Int) - ((M.cs.filter fun c => decide (c.side node < 0)).length : Int)

theorem Cn.side_le (c : Cn) (node : Int) : c.side node = -1 ∨ c.side node = 0 ∨ c.side node = 1 := by
  unfold Cn.side
  split
  · right; left; rfl
  · split
    · right; right; rfl
    · left; rfl
theorem Cn.at_le (c : Cn) (node : Int) : c.at node ≤ 1 := by
  have := c.side_le node
  unfold Cn.at
  omega
theorem Cn.at_side (c : Cn) (node : Int) (h : ¬ c.side node < 0) : c.side node = (c.at node : Int) := by
  have := c.side_le node
  unfold Cn.at
  omega

/-! ### In order -/
theorem Mok.filter {M : Nm} (h : Mok M) (f : Cn → Bool) : Mok { M with cs := M.cs.filter f } :=
  ⟨h.rise.filter f, fun c hc => h.top c (List.mem_filter.1 hc).1, fun c hc => h.one c (List.mem_filter.1 hc).1, fun c hc => h.live c (List.mem_filter.1 hc).1, fun c hc => h.ends c (List.mem_filter.1 hc).1, fun c hc => h.most c (List.mem_filter.1 hc).1, Nat.le_trans (List.length_filter_le _ _) h.few, h.lim⟩
/-- In order, but that some connection may be over. -/
structure Mor (M : Nm) : Prop where
  rise : M.cs.Pairwise (fun a b => a.id < b.id)
  top : ∀ c ∈ M.cs, c.id ≤ M.last
  one : ∀ c ∈ M.cs, 1 ≤ c.id
  ends : ∀ c ∈ M.cs, c.p ≠ c.q
  most : ∀ c ∈ M.cs, (c.L 0).length ≤ 131072 ∧ (c.L 1).length ≤ 131072
  few : M.cs.length ≤ 64
  lim : M.last ≤ 1000000
theorem Mor.keep {M : Nm} (h : Mor M) : Mok M.keep :=
  ⟨h.rise.filter _, fun c hc => h.top c (List.mem_filter.1 hc).1, fun c hc => h.one c (List.mem_filter.1 hc).1, fun c hc => (List.mem_filter.1 hc).2, fun c hc => h.ends c (List.mem_filter.1 hc).1, fun c hc => h.most c (List.mem_filter.1 hc).1, Nat.le_trans (List.length_filter_le _ _) h.few, h.lim⟩
theorem Nm.mem_set {M : Nm} {c d : Cn} (h : d ∈ (M.set c).cs) : (d = c ∧ ∃ e ∈ M.cs, e.id = c.id) ∨ (d ∈ M.cs ∧ d.id ≠ c.id) := by
  obtain ⟨e, he, rfl⟩ := List.mem_map.1 h
  by_cases hi : e.id = c.id
  · rw [if_pos hi]; exact .inl ⟨rfl, e, he, hi⟩
  · rw [if_neg hi]; exact .inr ⟨he, hi⟩
theorem Mok.set {M : Nm} (h : Mok M) {c d : Cn} (hd : d ∈ M.cs) (hi : c.id = d.id) (hp : c.p = d.p) (hq : c.q = d.q) (hm : (c.L 0).length ≤ 131072 ∧ (c.L 1).length ≤ 131072) : Mor (M.set c) := by
  refine ⟨?_, ?_, ?_, ?_, ?_, ?_, h.lim⟩
  · show List.Pairwise _ (List.map _ _)
    rw [List.pairwise_map]
    refine h.rise.imp ?_
    intro a b hab
    split <;> split <;> simp_all
  · intro x hx
    rcases Nm.mem_set hx with ⟨rfl, e, he, hei⟩ | ⟨hx, _⟩
    · rw [← hei]; exact h.top e he
    · exact h.top x hx
  · intro x hx
    rcases Nm.mem_set hx with ⟨rfl, e, he, hei⟩ | ⟨hx, _⟩
    · rw [← hei]; exact h.one e he
    · exact h.one x hx
  · intro x hx
    rcases Nm.mem_set hx with ⟨rfl, e, he, hei⟩ | ⟨hx, _⟩
    · rw [hp, hq]; exact h.ends d hd
    · exact h.ends x hx
  · intro x hx
    rcases Nm.mem_set hx with ⟨rfl, e, he, hei⟩ | ⟨hx, _⟩
    · exact hm
    · exact h.most x hx
  · show (List.map _ _).length ≤ 64
    rw [List.length_map]; exact h.few
theorem upd_01 (L : Nat → List UInt8) (t : Nat) (l : List UInt8) (B : Nat) (h : (L 0).length ≤ B ∧ (L 1).length ≤ B) (hl : l.length ≤ B) : (upd L t l 0).length ≤ B ∧ (upd L t l 1).length ≤ B := by
  unfold upd
  constructor <;> (split <;> omega)
theorem sdM_ok {M : Nm} (h : Mok M) (id node : Int) (lb : List UInt8) : Mok (sdM M id node lb) := by
  unfold sdM
  cases hg : M.get id with
  | none => exact h
  | some c =>
    obtain ⟨hc, hi⟩ := Nm.get_some hg
    simp only
    split
    · rename_i h0
      unfold sdE at h0
      rw [hg] at h0
      simp only at h0
      split at h0
      · omega
      · split at h0
        · omega
        · rename_i hcl
          split at h0
          · omega
          · rename_i hs hn
            have hl : (c.L (1 - c.at node) ++ lb).length ≤ 131072 := by rw [List.length_append]; omega
            have hm := h.set (c := c.rows (1 - c.at node) (c.L (1 - c.at node) ++ lb)) hc rfl rfl rfl (upd_01 _ _ _ _ (h.most c hc) hl)
            refine ⟨hm.rise, hm.top, hm.one, ?_, hm.ends, hm.most, hm.few, hm.lim⟩
            intro x hx
            rcases Nm.mem_set hx with ⟨rfl, _⟩ | ⟨hx, _⟩
            · have hle := c.at_le node
              unfold Cn.live Cn.rows
              simp only
              rcases (by omega : c.at node = 0 ∨ c.at node = 1) with e | e <;> rw [e] at hcl <;> simp [hcl]
            · exact h.live x hx
    · exact h
theorem crM_ok {M : Nm} (h : Mok M) (id node m : Int) : Mok (crM M id node m) := by
  unfold crM
  cases hg : M.get id with
  | none => exact h
  | some c =>
    obtain ⟨hc, hi⟩ := Nm.get_some hg
    simp only
    split
    · refine (h.set (c := c.rows (c.at node) _) hc rfl rfl rfl (upd_01 _ _ _ _ (h.most c hc) ?_)).keep
      have := h.most c hc
      have hle := c.at_le node
      rw [List.length_drop]
      rcases (by omega : c.at node = 0 ∨ c.at node = 1) with e | e <;> rw [e] <;> omega
    · exact h
theorem clM_ok {M : Nm} (h : Mok M) (id node : Int) : Mok (clM M id node) := by
  unfold clM
  cases hg : M.get id with
  | none => exact h
  | some c =>
    obtain ⟨hc, hi⟩ := Nm.get_some hg
    simp only
    split
    · exact (h.set (c := c.shut (c.at node)) hc rfl rfl rfl (h.most c hc)).keep
    · exact h
theorem cuM_ok {M : Nm} (h : Mok M) (id : Int) : Mok (cuM M id) := by
  unfold cuM
  cases hg : M.get id with
  | none => exact h
  | some c => exact h.filter _
theorem drM_ok {M : Nm} (h : Mok M) (node : Int) : Mok (drM M node) := h.filter _
theorem diM_ok {M : Nm} (h : Mok M) (hl : M.last < 1000000) (a b : Int) : Mok (diM M a b) := by
  unfold diM
  split
  · rename_i h0
    unfold diE at h0
    split at h0
    · omega
    · rename_i hb
      split at h0
      · omega
      · rename_i hn
        refine ⟨?_, ?_, ?_, ?_, ?_, ?_, ?_, by simp only; omega⟩
        · rw [List.pairwise_append]
          refine ⟨h.rise, List.pairwise_singleton _ _, fun x hx y hy => ?_⟩
          obtain rfl := List.mem_singleton.1 hy
          have := h.top x hx
          simp only [newC]; omega
        · intro x hx
          rcases List.mem_append.1 hx with hx | hx
          · have := h.top x hx; simp only; omega
          · obtain rfl := List.mem_singleton.1 hx; simp [newC]
        · intro x hx
          rcases List.mem_append.1 hx with hx | hx
          · exact h.one x hx
          · obtain rfl := List.mem_singleton.1 hx; simp [newC]
        · intro x hx
          rcases List.mem_append.1 hx with hx | hx
          · exact h.live x hx
          · obtain rfl := List.mem_singleton.1 hx; simp [newC, Cn.live]
        · intro x hx
          rcases List.mem_append.1 hx with hx | hx
          · exact h.ends x hx
          · obtain rfl := List.mem_singleton.1 hx
            simp only [newC]
            intro e
            exact hb (.inl e)
        · intro x hx
          rcases List.mem_append.1 hx with hx | hx
          · exact h.most x hx
          · obtain rfl := List.mem_singleton.1 hx; simp [newC]
        · simp only [List.length_append, List.length_singleton]; omega
  · exact h
#print axioms diM_ok
end Go.Proofs.Ytohlmfiicfoimaa
