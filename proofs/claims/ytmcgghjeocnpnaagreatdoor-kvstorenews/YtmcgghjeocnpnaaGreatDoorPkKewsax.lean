/-
  seglog: Append.; kvstore as mathematics: ops, items, a commit's record.; kvstore: rows of items in memory.; kvstore: a map of items in memory.; kvstore: checkOp, keyForm, commitRecord.; kvstore: a row of ops that came in; checkOps.; kvstore: commitRecord.; seglog: Append.; seglog: slices.Delete of segments.; seglog: dropFirst, Trim.
-/
import Derived.Test.YtmcgghjeocnpnaaGreatDoorPkKewsar
import Derived.Test.YtmcgghjeocnpnaaGreatDoorPkKewsas
import Derived.Test.YtmcgghjeocnpnaaGreatDoorPkKewsav
import Derived.Test.YtmcgghjeocnpnaaGreatDoorPkKewsaw
import Derived.Test.YtmcgghjeocnpnaaGreatDoorPkKewsaq
import Derived.Deep.AppendLies
import Derived.Test.YtmcgghjeocnpnaaGreatDoorPkKewsad
import Derived.Lib.SliceRun
import Derived.Deep.RegionLaw
section
set_option linter.unusedVariables false
set_option maxRecDepth 1000000
namespace Go.Proofs.YtmcgghjeocnpnaaGreatDoor
open Go.RowKit Go.Maps

def frameE (l : List UInt8) : List UInt8 × Nat := if 65536 < l.length then ([], 4) else (frameOf l, 0)
theorem frame_any (a : Option Addr) (n cap : Nat) (l : List UInt8) (w : World) (hB : Bs w a cap l) (hn : n = l.length) :
    Calls Tryz.prog 63 #[.slice a n cap] w fun e w' => ∃ a' cap' r, ∃ E : Nat, e = .returned (.tuple #[.slice a' r.length cap', .int .i64 (E : Int)]) ∧ Hid ((r, E) = frameE l) ∧ OwnB w' w.heap.size a' cap' r ∧ Below w.heap.size w w' := by
  by_cases h : 65536 < l.length
  · refine (frame_big a n cap w (by omega)).mono ?_
    rintro e w' ⟨rfl, rfl⟩
    exact ⟨none, 0, [], 4, rfl, by show _ = _; rw [frameE, if_pos h], OwnB.nil _ _, Below.refl _ _⟩
  · refine (frame_ok a n cap l w hB hn h).mono ?_
    rintro e w' ⟨a', cap', r, rfl, hr, ho, hb⟩
    exact ⟨a', cap', r, 0, rfl, by show _ = _; rw [frameE, if_neg h, hr.out], ho, hb⟩
theorem form_len (n : Nat) (h : n ≤ 9223372036854775807) : (form n).length ≤ 9 ∧ 1 ≤ (form n).length := by
  unfold form
  split
  · simp
  · have : nb n ≤ 8 := (nb_pos n).2
    simp [be_length]
    omega
/-- The frames of records, one behind the other: how many bytes. -/
def flN : Nat → List (List UInt8) → Nat
  | _, [] => 0
  | n, r :: rs => (frmN n r).length + flN (n + 1) rs
theorem flN_snoc : ∀ (rs : List (List UInt8)) (n : Nat) (r : List UInt8), flN n (rs ++ [r]) = flN n rs + (frmN (n + rs.length) r).length
  | [], n, r => by simp [flN]
  | a :: rs, n, r => by
    show _ + flN (n + 1) (rs ++ [r]) = _
    rw [flN_snoc rs (n + 1) r]
    simp only [flN, List.length_cons]
    rw [show n + 1 + rs.length = n + (rs.length + 1) by omega]
    omega
/-- A log as its calls leave it. -/
structure Wf (S : List Sg) : Prop where
  ch : ∀ i s t, S[i]? = some s → S[i + 1]? = some t → t.first = s.next ∧ s.recs ≠ []
  f1 : ∀ s ∈ S, 1 ≤ s.first
  sz : ∀ s ∈ S, s.size = flN s.first s.recs
theorem Wf.rise {S : List Sg} (h : Wf S) : ∀ (d i : Nat) (s t : Sg), S[i]? = some s → S[i + d + 1]? = some t → s.first < t.first
  | 0, i, s, t, h1, h2 => by
    obtain ⟨e1, e2⟩ := h.ch i s t h1 h2
    rw [e1]
    have := List.length_pos_iff.2 e2
    unfold Sg.next
    omega
  | d + 1, i, s, t, h1, h2 => by
    have hlt := (List.getElem?_eq_some_iff.1 h2).1
    obtain ⟨u, hu⟩ : ∃ u, S[i + d + 1]? = some u := ⟨_, List.getElem?_eq_getElem (by omega)⟩
    have a := h.rise d i s u h1 hu
    obtain ⟨e1, e2⟩ := h.ch (i + d + 1) u t hu h2
    rw [e1]
    unfold Sg.next
    omega
theorem Wf.apart {S : List Sg} (h : Wf S) {n : Nat} {s : Sg} (hn : S[n]? = some s) : ∀ i u, i < n → S[i]? = some u → u.first ≠ s.first := fun i u hi hu => by
  have := h.rise (n - i - 1) i u s hu (by rw [show i + (n - i - 1) + 1 = n by omega]; exact hn)
  omega
/-- Where the last segment is full, all begin ahead of the next number. -/
theorem Wf.under {S : List Sg} (h : Wf S) (hf : fullS S) {i : Nat} {u : Sg} (hu : S[i]? = some u) : u.first < nxS S := by
  have hlt := (List.getElem?_eq_some_iff.1 hu).1
  obtain ⟨n, hn⟩ : ∃ n, S.length = n + 1 := ⟨S.length - 1, by omega⟩
  obtain ⟨s, hs⟩ : ∃ s, S[n]? = some s := ⟨_, List.getElem?_eq_getElem (by omega)⟩
  have hl : S.getLast? = some s := by rw [getLast_at S n hn]; exact hs
  have h4 := hf s hl
  have hne : s.recs ≠ [] := by
    intro e
    have := h.sz s (List.mem_of_getElem? hs)
    rw [e] at this
    simp [flN] at this
    omega
  have hpos := List.length_pos_iff.2 hne
  have hnx : nxS S = s.first + s.recs.length := by unfold nxS; rw [hl]; rfl
  by_cases hi : i = n
  · subst hi
    rw [hs] at hu
    obtain rfl := Option.some.inj hu
    omega
  · have := h.rise (n - i - 1) i u s hu (by rw [show i + (n - i - 1) + 1 = n by omega]; exact hs)
    omega
/-- The file that the next record goes into. -/
def apN (S : List Sg) : Nat := match S.getLast? with | some s => if s.size < 4096 then s.first else nxS S | none => nxS S
def apD (M : Md) (S : List Sg) : Md := match S.getLast? with | some s => if s.size < 4096 then M else syM M S | none => M
/-- The segments with one record more. -/
def apS (S : List Sg) (r : List UInt8) : List Sg := match S.getLast? with
  | some s => if s.size < 4096 then S.take (S.length - 1) ++ [s.put r (frmN (nxS S) r).length] else S ++ [(⟨nxS S, [], 0⟩ : Sg).put r (frmN (nxS S) r).length]
  | none => S ++ [(⟨nxS S, [], 0⟩ : Sg).put r (frmN (nxS S) r).length]
/-- Why a record is refused. -/
def apE (M : Md) (S : List Sg) (r : List UInt8) : Int := if nxS S = 9223372036854775807 then 5 else if 65536 < (form (nxS S) ++ r).length then 4 else (apD M S).writeE (nmS (apN S)) (frmN (nxS S) r).length
theorem recs_le {S : List Sg} {s : Sg} (h : s ∈ S) : s.recs.length ≤ (S.flatMap (·.recs)).length := by
  induction S with
  | nil => cases h
  | cons a S ih =>
    simp only [List.flatMap_cons, List.length_append]
    rcases List.mem_cons.1 h with rfl | h
    · omega
    · have := ih h; omega
theorem size_le {S : List Sg} {s : Sg} (h : s ∈ S) : s.size ≤ bySz S := by
  unfold bySz
  induction S with
  | nil => cases h
  | cons a S ih =>
    simp only [List.map_cons, List.sum_cons]
    rcases List.mem_cons.1 h with rfl | h
    · omega
    · have := ih h; omega
#print axioms Wf.apart
end Go.Proofs.YtmcgghjeocnpnaaGreatDoor
end
section
set_option linter.unusedVariables false
namespace Go.Proofs.YtmcgghjeocnpnaaGreatDoor
open Go.RowKit

/-- An op: a key, whether it goes, its value. -/
structure Op6 where
  k : Nm
  g : Bool
  v : Nm
/-- An item. -/
structure Im where
  k : Nm
  g : Bool
  v : Nm
  t : Nat
def opE (o : Op6) : Nat := if o.k.length < 1 ∨ 128 < o.k.length then 6 else if o.g = true ∧ o.v ≠ [] then 1 else if 4096 < o.v.length then 4 else 0
/-- The first error of ops, behind those ahead. -/
def opsE (ahead : List Op6) : List Op6 → Nat
  | [] => 0
  | o :: r => if opE o ≠ 0 then opE o else if ahead.any (fun p => p.k == o.k) then 61 else opsE (ahead ++ [o]) r
def ckE (l : List Op6) : Nat := if l.length < 1 ∨ 256 < l.length then 1 else opsE [] l
/-- A key and what it has, as records tell it. -/
def kfB (k : Nm) (g : Bool) (v : Nm) : List UInt8 := form k.length ++ k ++ (if g then [1] else 0 :: (form v.length ++ v))
def cmB (t : Nat) (l : List Im) : List UInt8 := 1 :: (form t ++ (form l.length ++ l.flatMap fun x => kfB x.k x.g x.v))
def wrI (l : List Op6) (t : Nat) : List Im := l.map fun o => ⟨o.k, o.g, o.v, t⟩
abbrev Its := Nm → Option Im
def Its.put (f : Its) (l : List Im) : Its := l.foldl (fun f x => upd f x.k (some x)) f
theorem Its.put_snoc (f : Its) (l : List Im) (x : Im) : f.put (l ++ [x]) = upd (f.put l) x.k (some x) := by unfold Its.put; rw [List.foldl_append]; rfl
theorem kfB_len (k v : Nm) (g : Bool) (hk : k.length ≤ 128) (hv : v.length ≤ 4096) : (kfB k g v).length ≤ 4300 := by
  have h1 := (form_le k.length).2
  have h2 := (form_le v.length).2
  unfold kfB
  split <;> simp <;> omega
/-- What ops that may be are like. -/
structure OkO (l : List Op6) : Prop where
  n1 : 1 ≤ l.length
  n2 : l.length ≤ 256
  each : ∀ o ∈ l, 1 ≤ o.k.length ∧ o.k.length ≤ 128 ∧ o.v.length ≤ 4096 ∧ (o.g = true → o.v = [])
  apart : ∀ (i j : Nat) (o p : Op6), i < j → l[i]? = some o → l[j]? = some p → o.k ≠ p.k
theorem opE_zero {o : Op6} (h : opE o = 0) : 1 ≤ o.k.length ∧ o.k.length ≤ 128 ∧ o.v.length ≤ 4096 ∧ (o.g = true → o.v = []) := by
  unfold opE at h
  split at h
  · cases h
  · split at h
    · cases h
    · split at h
      · cases h
      · rename_i h1 h2 h3
        refine ⟨by omega, by omega, by omega, fun hg => ?_⟩
        apply Classical.byContradiction
        intro hv
        exact h2 ⟨hg, hv⟩
theorem opsE_zero : ∀ {l ahead : List Op6}, opsE ahead l = 0 → (∀ o ∈ l, opE o = 0) ∧ (∀ (i : Nat) (p : Op6), l[i]? = some p → (∀ q ∈ ahead, q.k ≠ p.k) ∧ ∀ (j : Nat) (q : Op6), j < i → l[j]? = some q → q.k ≠ p.k)
  | [], ahead, _ => ⟨fun o ho => (by cases ho), fun i p hp => by simp at hp⟩
  | o :: r, ahead, h => by
    unfold opsE at h
    split at h
    · rename_i h1; exact absurd h h1
    · rename_i h1
      split at h
      · cases h
      · rename_i h2
        obtain ⟨i1, i2⟩ := opsE_zero h
        have h1' : opE o = 0 := by simpa using h1
        have h2' : ∀ q ∈ ahead, q.k ≠ o.k := fun q hq e => h2 (List.any_eq_true.2 ⟨q, hq, by simp [e]⟩)
        refine ⟨fun p hp => ?_, fun i p hp => ?_⟩
        · rcases List.mem_cons.1 hp with e | e
          · rw [e]; exact h1'
          · exact i1 p e
        · cases i with
          | zero =>
            simp at hp
            subst hp
            exact ⟨h2', fun j q hj => by omega⟩
          | succ i =>
            have hp' : r[i]? = some p := by simpa using hp
            obtain ⟨k1, k2⟩ := i2 i p hp'
            refine ⟨fun q hq => k1 q (by simp [hq]), fun j q hj hq => ?_⟩
            cases j with
            | zero =>
              simp at hq
              subst hq
              exact k1 o (by simp)
            | succ j => exact k2 j q (by omega) (by simpa using hq)
theorem ckE_zero {l : List Op6} (h : ckE l = 0) : OkO l := by
  unfold ckE at h
  split at h
  · cases h
  · rename_i h1
    obtain ⟨i1, i2⟩ := opsE_zero h
    exact ⟨by omega, by omega, fun o ho => opE_zero (i1 o ho), fun i j o p hij ho hp => (i2 j p hp).2 i o hij ho⟩
#print axioms ckE_zero
end Go.Proofs.YtmcgghjeocnpnaaGreatDoor
end
section
set_option linter.unusedVariables false
namespace Go.Proofs.YtmcgghjeocnpnaaGreatDoor
open Go.RowKit Go.Maps

def imC (x : Im) : List Value := [.string (str x.k), .bool x.g, .string (str x.v), .int .i64 (x.t : Int)]
def ims (l : List Im) : List Value := l.flatMap imC
theorem ims_length (l : List Im) : (ims l).length = l.length * 4 := by
  induction l with
  | nil => rfl
  | cons t r ih => simp [ims, imC] at ih ⊢; omega
theorem ims_append (l r : List Im) : ims (l ++ r) = ims l ++ ims r := by simp [ims]
theorem ims_one (l : List Im) : ∀ u ∈ ims l, u.oneCell' = true := by
  intro u hu
  obtain ⟨t, _, ht⟩ := List.mem_flatMap.1 hu
  simp [imC] at ht
  rcases ht with rfl | rfl | rfl | rfl <;> rfl
theorem ims_get : ∀ (l : List Im) (i j : Nat) (t : Im), l[i]? = some t → j < 4 → (ims l)[i * 4 + j]? = (imC t)[j]?
  | [], i, j, t, h, _ => by simp at h
  | u :: r, 0, j, t, h, hj => by
    simp at h
    subst h
    show (imC u ++ ims r)[0 * 4 + j]? = _
    rw [List.getElem?_append_left (by simp [imC]; omega)]
    simp
  | u :: r, i + 1, j, t, h, hj => by
    show (imC u ++ ims r)[(i + 1) * 4 + j]? = _
    have e : (i + 1) * 4 + j = (imC u).length + (i * 4 + j) := by simp [imC]; omega
    rw [e, List.getElem?_append_right (by omega), Nat.add_sub_cancel_left]
    exact ims_get r i j t (by simpa using h) hj
def OwnM (w : World) (a : Option Addr) (cap : Nat) (l : List Im) : Prop := w.ownsRow 0 47 4 (.slice a l.length cap) l.length (ims l)
theorem OwnM.cases {w : World} {a : Option Addr} {cap : Nat} {l : List Im} (h : OwnM w a cap l) :
    (a = none ∧ cap = 0 ∧ l = []) ∨ ∃ g cur, a = some ⟨g, 0, none⟩ ∧ w.heap[g]? = some (.cells cur 47 (0, 0)) ∧ l.length ≤ cap ∧ cap ≤ maxLen ∧ cur.size = cap * 4 ∧ cur.toList.take (l.length * 4) = ims l := by
  rcases h.2 with ⟨hv, hn⟩ | ⟨g, cap', cur, hv, hb, hg, hle, hm, hs, ht⟩
  · simp only [Value.slice.injEq] at hv
    exact .inl ⟨hv.1, hv.2.2, List.eq_nil_of_length_eq_zero hn⟩
  · simp only [Value.slice.injEq, true_and] at hv
    obtain ⟨rfl, rfl⟩ := hv
    exact .inr ⟨g, cur, rfl, hg, hle, hm, hs, ht⟩
theorem OwnM.nil (w : World) : OwnM w none 0 [] := World.ownsRow_nil w 0 _ _
theorem OwnM.lt {w : World} {a : Option Addr} {cap : Nat} {l : List Im} (h : OwnM w a cap l) : ∀ k, blk a = some k → k < w.heap.size := by
  intro k hk
  rcases h.cases with ⟨rfl, rfl, rfl⟩ | ⟨g, cur, rfl, hg, _⟩
  · simp [blk] at hk
  · simp [blk] at hk
    subst hk
    exact (Array.getElem?_eq_some_iff.1 hg).1
theorem OwnM.le {w : World} {a : Option Addr} {cap : Nat} {l : List Im} (h : OwnM w a cap l) : l.length ≤ cap ∧ cap ≤ maxLen := by
  rcases h.cases with ⟨rfl, rfl, rfl⟩ | ⟨g, cur, rfl, hg, h1, h2, _⟩
  · exact ⟨Nat.le_refl _, Nat.zero_le _⟩
  · exact ⟨h1, h2⟩
theorem OwnM.same {w w' : World} {a : Option Addr} {cap : Nat} {l : List Im} (h : OwnM w a cap l) (e : ∀ k, blk a = some k → w'.heap[k]? = w.heap[k]?) : OwnM w' a cap l := by
  refine ⟨h.1, ?_⟩
  rcases h.2 with hn | ⟨b, cap, cur, hv, hbb, hgg, rest⟩
  · exact .inl hn
  · refine .inr ⟨b, cap, cur, hv, hbb, ?_, rest⟩
    have e2 : blk a = some b := by simp only [Value.slice.injEq] at hv; rw [hv.1]; rfl
    exact (e b e2).trans hgg
theorem OwnM.st {w w' : World} {g g' : Nat → Tg} {S : Tg → Prop} {a : Option Addr} {cap : Nat} {l : List Im} (h : OwnM w a cap l) (x : St w w' g g' S) (hs : ∀ k, blk a = some k → ¬ S (g k)) : OwnM w' a cap l :=
  h.same (fun k hk => x.block k (h.lt k hk) (hs k hk))
theorem OwnM.below {w w' : World} {a : Option Addr} {cap : Nat} {l : List Im} (h : OwnM w a cap l) (x : Below w.heap.size w w') : OwnM w' a cap l :=
  h.same (fun k hk => x.block k (h.lt k hk))
/-- The cells of the item at i. -/
theorem OwnM.at {w : World} {a : Option Addr} {cap : Nat} {l : List Im} (h : OwnM w a cap l) {i : Nat} {t : Im} (hi : l[i]? = some t) :
    ∃ g, a = some ⟨g, 0, none⟩ ∧ w.cell? ⟨g, i * 4, none⟩ = some (.string (str t.k)) ∧ w.cell? ⟨g, i * 4 + 1, none⟩ = some (.bool t.g) ∧ w.cell? ⟨g, i * 4 + 2, none⟩ = some (.string (str t.v)) ∧ w.cell? ⟨g, i * 4 + 3, none⟩ = some (.int .i64 (t.t : Int)) ∧ ∀ j, w.frozen? ⟨g, j, none⟩ = false := by
  have hlt := (List.getElem?_eq_some_iff.1 hi).1
  rcases h.cases with ⟨rfl, rfl, rfl⟩ | ⟨g, cur, rfl, hg, hle, hm, hs, ht⟩
  · simp at hi
  · have key : ∀ j, j < 4 → w.cell? ⟨g, i * 4 + j, none⟩ = (imC t)[j]? := by
      intro j hj
      rw [cell_of_row w g (i * 4 + j) cur _ (0, 0) hg, ← ims_get l i j t hi hj, ← ht, List.getElem?_take, if_pos (by omega)]
      simp
    exact ⟨g, rfl, key 0 (by omega), key 1 (by omega), key 2 (by omega), key 3 (by omega), fun j => frozen_of_row w g j _ _ hg⟩
theorem Tryz.infoM6 : (Tryz.prog.info? 47).map (fun i => (i.zero, i.size, i.bytes)) = some (some (.agg #[.string ByteArray.empty, .bool false, .string ByteArray.empty, .int .i64 0]), 4, 48) := by kernel_rfl
theorem newm_box {w : World} {B : Nat} {t : Im} (h : w.heap[B]? = some (.cells (imC t).toArray 47 (0, 0))) : ∀ j u, (ims [t])[j]? = some u → w.cell? ((⟨B, 0, none⟩ : Addr).add j) = some u := by
  intro j u hu
  rw [addr_add, Nat.zero_add, cell_of_row w B j _ _ _ h]
  have : ims [t] = imC t := by simp [ims]
  rw [this] at hu
  simpa using hu
/-- append(s, item), s a row of items, as a step of a region that draws its order. -/
theorem stp_appm (w : World) {ops : Array Oper} {o : Oper} {a : Act} {K : Act → World → Prop} {Q : Exit → Act → World → Prop} {E : Prop} (hgd : o.guard = none) (s x : Operand)
    (ho : o.op = .call { callee := .builtin .append, args := #[s, x], argTypes := #[39, 39] })
    (a1 : Option Addr) (cap1 : Nat) (l1 : List Im) (n1 : Nat) (hs : a.eval s = .slice a1 n1 cap1) (hn1 : n1 = l1.length) (hown : OwnM w a1 cap1 l1)
    (B c2 : Nat) (t : Im) (hx : a.eval x = .slice (some ⟨B, 0, none⟩) 1 c2) (hsrc : w.heap[B]? = some (.cells (imC t).toArray 47 (0, 0))) (hlen : l1.length ≤ 1000000)
    (h : ∀ g cap w', Hid (OwnM w' (some ⟨g, 0, none⟩) cap (l1 ++ [t])) → Hid (w.grownBy w' (blk a1)) → Hid (blk a1 = some g ∨ g = w.heap.size) → K (a.put o.dst (.slice (some ⟨g, 0, none⟩) (n1 + 1) cap)) w') :
    if Region.wanted o (yielded ops a.tmps) = true then Oper.wp Tryz.prog o a w K Q else E := by
  subst hn1
  obtain ⟨i, hi, hz0, hz1, hz2⟩ := info_parts Tryz.infoM6
  refine step_append_lies w hgd s x 39 ho 0 47 i _ 4 48 Tryz.underlying39 hi hz0 hz1 hz2 rfl (by decide) _ _ _ hs hown ⟨B, 0, none⟩ 1 c2 (ims [t]) hx (by rw [ims_length]; simp) (newm_box hsrc) (ims_one [t]) (by decide) (by unfold maxLen; omega) (by omega) (Nat.zero_le _) _ rfl ?_
  intro g cap w' h1 h2 h3 h4
  rw [OwnA.ownBlock] at h2 h3
  refine h g cap w' ?_ h2 h3
  have e1 : l1.length + 1 = (l1 ++ [t]).length := by simp
  show OwnM _ _ _ _
  unfold OwnM
  rw [← e1, ims_append]
  exact h1
/-- .. in a plain region. -/
theorem wp_appm (w : World) {ops : Array Oper} {rest : List Oper} {o : Oper} {a : Act} {Q : Exit → Act → World → Prop} (hgd : o.guard = none) (s x : Operand)
    (ho : o.op = .call { callee := .builtin .append, args := #[s, x], argTypes := #[39, 39] })
    (a1 : Option Addr) (cap1 : Nat) (l1 : List Im) (n1 : Nat) (hs : a.eval s = .slice a1 n1 cap1) (hn1 : n1 = l1.length) (hown : OwnM w a1 cap1 l1)
    (B c2 : Nat) (t : Im) (hx : a.eval x = .slice (some ⟨B, 0, none⟩) 1 c2) (hsrc : w.heap[B]? = some (.cells (imC t).toArray 47 (0, 0))) (hlen : l1.length ≤ 1000000)
    (h : ∀ g cap w', Hid (OwnM w' (some ⟨g, 0, none⟩) cap (l1 ++ [t])) → Hid (w.grownBy w' (blk a1)) → Hid (blk a1 = some g ∨ g = w.heap.size) → wpList Tryz.prog ops Q rest (a.put o.dst (.slice (some ⟨g, 0, none⟩) (n1 + 1) cap)) w') : wpList Tryz.prog ops Q (o :: rest) a w := by
  subst hn1
  obtain ⟨i, hi, hz0, hz1, hz2⟩ := info_parts Tryz.infoM6
  refine wpList_append_lies w hgd s x 39 ho 0 47 i _ 4 48 Tryz.underlying39 hi hz0 hz1 hz2 rfl (by decide) _ _ _ hs hown ⟨B, 0, none⟩ 1 c2 (ims [t]) hx (by rw [ims_length]; simp) (newm_box hsrc) (ims_one [t]) (by decide) (by unfold maxLen; omega) (by omega) (Nat.zero_le _) _ rfl ?_
  intro g cap w' h1 h2 h3 h4
  rw [OwnA.ownBlock] at h2 h3
  refine h g cap w' ?_ h2 h3
  have e1 : l1.length + 1 = (l1 ++ [t]).length := by simp
  show OwnM _ _ _ _
  unfold OwnM
  rw [← e1, ims_append]
  exact h1
/-- What a store into the item at i leaves. -/
theorem OwnM.setAt {w : World} {G cap : Nat} {l : List Im} (h : OwnM w (some ⟨G, 0, none⟩) cap l) (i j : Nat) (t u : Im) (hi : l[i]? = some t) (hj : j < 4) (x : Value) (hu : ∀ k, k < 4 → (imC u)[k]? = if k = j then some x else (imC t)[k]?) :
    OwnM (w.setCell ⟨G, i * 4 + j, none⟩ x) (some ⟨G, 0, none⟩) cap (l.set i u) := by
  have hlt := (List.getElem?_eq_some_iff.1 hi).1
  rcases h.2 with ⟨hv, hn⟩ | ⟨b, cap', cur, hv, hbb, hgg, hle, hm, hs, ht⟩
  · cases hv
  · simp only [Value.slice.injEq, Option.some.injEq, Addr.mk.injEq, and_true, true_and] at hv
    obtain ⟨rfl, rfl⟩ := hv
    unfold OwnM
    rw [List.length_set]
    refine ⟨by rw [ims_length, List.length_set], .inr ⟨G, cap, cur.setIfInBounds (i * 4 + j) x, rfl, hbb, ?_, hle, hm, by simp [hs], ?_⟩⟩
    · rw [heap_setCell_same _ _ _ _ _ _ hgg]
    · apply List.ext_getElem?
      intro p
      have hlen : (ims (l.set i u)).length = l.length * 4 := by rw [ims_length, List.length_set]
      by_cases hp : p < l.length * 4
      · obtain ⟨a, b, hab, hb3⟩ : ∃ a b, p = a * 4 + b ∧ b < 4 := ⟨p / 4, p % 4, by omega, by omega⟩
        have ha : a < l.length := by omega
        subst hab
        rw [List.getElem?_take, if_pos hp]
        have hcur : ∀ c < 4, cur[a * 4 + c]? = (ims l)[a * 4 + c]? := fun c hc => by
          rw [← ht, List.getElem?_take, if_pos (by omega)]; simp
        obtain ⟨ta, hta⟩ : ∃ ta, l[a]? = some ta := ⟨_, List.getElem?_eq_getElem ha⟩
        by_cases hai : a = i
        · subst hai
          rw [hi] at hta
          cases hta
          rw [ims_get (l.set a u) a b u (by rw [List.getElem?_set_self hlt]) hb3, hu b hb3]
          by_cases hbj : b = j
          · subst hbj
            rw [if_pos rfl, Array.getElem?_toList, Array.getElem?_setIfInBounds_self, if_pos (by rw [hs]; omega)]
          · rw [if_neg hbj, Array.getElem?_toList, Array.getElem?_setIfInBounds_ne (by omega), hcur b hb3, ims_get l a b t hi hb3]
        · rw [ims_get (l.set i u) a b ta (by rw [List.getElem?_set_ne (Ne.symm hai)]; exact hta) hb3, Array.getElem?_toList, Array.getElem?_setIfInBounds_ne (by omega), hcur b hb3, ims_get l a b ta hta hb3]
      · rw [List.getElem?_take, if_neg hp, List.getElem?_eq_none (by omega)]
#print axioms stp_appm
#print axioms OwnM.setAt
end Go.Proofs.YtmcgghjeocnpnaaGreatDoor
end
section
set_option linter.unusedVariables false
namespace Go.Proofs.YtmcgghjeocnpnaaGreatDoor
open Go.RowKit Go.Maps

def imA (x : Im) : Value := .agg (imC x).toArray
def enI (x : Im) : DataW Unit := .agg [.lit (.string x.k), .lit (.bool x.g), .lit (.string x.v), .lit (.int .i64 (x.t : Int))]
def imE (v : Value) : Option (DataW Unit × List MemPlace) := match v with
  | .agg xs => match xs.toList with
    | [.string a, .bool g, .string b, .int .i64 t] => some (.agg [.lit (.string a.data.toList), .lit (.bool g), .lit (.string b.data.toList), .lit (.int .i64 t)], [])
    | _ => none
  | _ => none
theorem str_list (l : List UInt8) : (str l).data.toList = l := by simp [str]
theorem str_back (s : ByteArray) : str s.data.toList = s := by
  cases s with
  | mk d => cases d with
    | mk l => rfl
theorem imE_mk (x : Im) : imE (imA x) = some (enI x, []) := by
  unfold imE imA imC enI
  simp [str_list]
theorem imE_inv {v : Value} {x : Im} {ps : List MemPlace} (h : imE v = some (enI x, ps)) : v = imA x := by
  unfold imE at h
  split at h
  · rename_i xs
    split at h
    · rename_i a g b t hxs
      simp only [Option.some.injEq, Prod.mk.injEq, enI, DataW.agg.injEq, List.cons.injEq, DataW.lit.injEq, Lit.string.injEq, Lit.bool.injEq, Lit.int.injEq, true_and, and_true] at h
      obtain ⟨⟨h1, h2, h3, h4⟩, _⟩ := h
      have e : xs = (imC x).toArray := by
        apply Array.toList_inj.1
        rw [hxs]
        unfold imC
        rw [← h1, ← h2, ← h3, ← h4, str_back, str_back]
      rw [e]
      rfl
    · cases h
  · cases h
def imZ : Value := .agg #[.string ByteArray.empty, .bool false, .string ByteArray.empty, .int .i64 0]
theorem imZ_eq : imZ = imA ⟨[], false, [], 0⟩ := rfl
theorem zeroM (w : World) : (zeroValue 47).run Tryz.prog w = .ok imZ w := by kernel_rfl
/-- Block bm is a map of at most cnt items. -/
def IM (w : World) (bm : Nat) (f : Its) (cnt : Nat) : Prop :=
  ∃ D, w.ownsMap Tryz.prog 9 imE bm cnt D ∧ ∀ n, (f n = none ∧ Maps.has D (.string n) = false) ∨ ∃ x, f n = some x ∧ Maps.has D (.string n) = true ∧ ∀ z, D.atKey (.string n) z = enI x
theorem IM.lt {w : World} {bm cnt : Nat} {f : Its} (h : IM w bm f cnt) : bm < w.heap.size := by
  obtain ⟨D, h1, _⟩ := h
  exact h1.lt
theorem IM.same {w w' : World} {bm cnt : Nat} {f : Its} (h : IM w bm f cnt) (x : w'.heap[bm]? = w.heap[bm]?) : IM w' bm f cnt := by
  obtain ⟨D, h1, h2⟩ := h
  exact ⟨D, ownsMap_same h1 x, h2⟩
theorem IM.made (w : World) : IM (w.alloc (.map #[] 0)) w.heap.size (fun _ => none) 0 :=
  ⟨.map [], World.ownsMap_made _ _ _ _, fun n => .inl ⟨rfl, rfl⟩⟩
def igA (f : Its) (n : Nm) : Value := match f n with | some x => imA x | none => imZ
theorem IM.at {w : World} {bm cnt : Nat} {f : Its} (h : IM w bm f cnt) (n : Nm) (hn : n.length ≤ maxLen) :
    ∀ w', w'.heap[bm]? = w.heap[bm]? →
      (Instr.lookup 49 (.map (some bm)) (.string (str n)) false).run Tryz.prog w' = .ok (igA f n) w' ∧
      (Instr.lookup 49 (.map (some bm)) (.string (str n)) true).run Tryz.prog w' = .ok (.tuple #[igA f n, .bool (f n).isSome]) w' := by
  obtain ⟨D, h1, h3⟩ := h
  have hk := key_str n hn
  intro w' hw
  have h1' := ownsMap_same h1 hw
  obtain ⟨v, ps, r1, r2⟩ := h1'.lookup law Tryz.underlying49 (zeroM w') (imZ_eq ▸ imE_mk ⟨[], false, [], 0⟩) hk
  obtain ⟨v', ps', s1, s2⟩ := h1'.look_ok law Tryz.underlying49 (zeroM w') (imZ_eq ▸ imE_mk ⟨[], false, [], 0⟩) hk
  rcases h3 n with ⟨e1, e2⟩ | ⟨x, e1, e2, e3⟩
  · rw [Maps.atKey_of_not_has e2] at r2 s2
    rw [imE_inv r2] at r1
    rw [imE_inv s2, e2] at s1
    unfold igA
    rw [e1]
    exact ⟨r1, s1⟩
  · rw [e3] at r2 s2
    rw [imE_inv r2] at r1
    rw [imE_inv s2, e2] at s1
    unfold igA
    rw [e1]
    exact ⟨r1, s1⟩
theorem IM.put {w : World} {bm cnt : Nat} {f : Its} (h : IM w bm f cnt) (n : Nm) (hn : n.length ≤ maxLen) (hc : cnt < maxLen) (x : Im) :
    ∃ w2, (Instr.mapUpdate 49 (.map (some bm)) (.string (str n)) (imA x)).run Tryz.prog w = .ok () w2 ∧ IM w2 bm (upd f n (some x)) (cnt + 1) ∧ w.grownBy w2 (some bm) := by
  obtain ⟨D, h1, h2⟩ := h
  obtain ⟨w2, r1, r2, r3⟩ := h1.store law Tryz.underlying49 hc (key_str n hn) (imE_mk x)
  refine ⟨w2, r1, ⟨_, r2, fun m => ?_⟩, r3.grown⟩
  by_cases hm : m = n
  · subst hm
    rw [upd_same]
    exact .inr ⟨x, rfl, Maps.has_put_same h1.isMap (by trivial) _, fun z => Maps.atKey_put_same h1.isMap (by trivial) _ z⟩
  · have hne : (Lit.string m) ≠ (Lit.string n) := fun e => hm (by simpa using e)
    rw [upd_other _ _ _ _ hm]
    rcases h2 m with ⟨e1, e2⟩ | ⟨y, e1, e2, e3⟩
    · exact .inl ⟨e1, by rw [Maps.has_put_other hne]; exact e2⟩
    · exact .inr ⟨y, e1, by rw [Maps.has_put_other hne]; exact e2, fun z => by rw [Maps.atKey_put_other hne]; exact e3 z⟩
#print axioms IM.at
#print axioms IM.put
end Go.Proofs.YtmcgghjeocnpnaaGreatDoor
end
section
set_option linter.unusedVariables false
set_option maxRecDepth 1000000
namespace Go.Proofs.YtmcgghjeocnpnaaGreatDoor
open Go.RowKit Go.Maps

theorem bs_nil6 (w : World) : Bs w none 0 [] := ⟨fun h => absurd rfl h, Nat.le_refl _, by unfold maxLen; omega, fun _ => rfl⟩
theorem str_empty (l : List UInt8) : ((str l).data.toList == []) = decide (l = []) := by
  rw [str_list]; cases l <;> rfl
set_option maxHeartbeats 2000000 in
theorem checkOp6 (o : Op6) (w : World) (hk : o.k.length ≤ maxLen) (hv : o.v.length ≤ maxLen) :
    Calls Tryz.prog 69 #[.agg #[.string (str o.k), .bool o.g, .string (str o.v)]] w fun e w' => e = .returned (.int .i64 (opE o : Int)) ∧ Hid (Below w.heap.size w w') := by
  have hk1 : (str o.k).size = o.k.length := str_size _
  have hv1 : (str o.v).size = o.v.length := str_size _
  unfold maxLen at hk hv
  have hb : ∀ ob, Below w.heap.size w (w.alloc ob) := fun ob => (Below.refl _ _).alloc (Nat.le_refl _) _
  by_cases h1 : o.k.length < 1
  · have e1 : ((o.k.length : Nat) : Int) < 1 := by omega
    have HX : Hid (opE o = 6) := by show _ = _; unfold opE; rw [if_pos (.inl h1)]
    go_enter Tryz.func69, Tryz.ntmps69
    go_wp2_with fail
    go_ret
    exact ⟨by rw [unhide HX]; rfl, hb _⟩
  · have e1 : ¬ ((o.k.length : Nat) : Int) < 1 := by omega
    by_cases h2 : 128 < o.k.length
    · have e2 : (128 : Int) < ((o.k.length : Nat) : Int) := by omega
      have HX : Hid (opE o = 6) := by show _ = _; unfold opE; rw [if_pos (.inr h2)]
      go_enter Tryz.func69, Tryz.ntmps69
      go_wp2_with fail
      go_ret
      exact ⟨by rw [unhide HX]; rfl, hb _⟩
    · have e2 : ¬ (128 : Int) < ((o.k.length : Nat) : Int) := by omega
      have hk0 : ¬ (o.k.length < 1 ∨ 128 < o.k.length) := by omega
      obtain ⟨k, g, v⟩ := o
      simp only at hk hv hk1 hv1 h1 h2 e1 e2 hk0
      cases g with
      | true =>
        by_cases hv0 : v = []
        · have f1 : (str v).toList.isEmpty = true := by rw [toList_str, hv0]; rfl
          have e3 : ¬ (4096 : Int) < ((v.length : Nat) : Int) := by rw [hv0]; simp
          have HX : Hid (opE ⟨k, true, v⟩ = 0) := by show _ = _; unfold opE; rw [if_neg hk0, if_neg (by simp [hv0]), if_neg (by simp [hv0])]
          clear hv0
          go_enter Tryz.func69, Tryz.ntmps69
          go_wp2_with fail
          go_ret
          exact ⟨by rw [unhide HX]; rfl, hb _⟩
        · have f1 : (str v).toList.isEmpty = false := by rw [toList_str]; cases h : v with | nil => exact absurd h hv0 | cons a l => rfl
          have HX : Hid (opE ⟨k, true, v⟩ = 1) := by show _ = _; unfold opE; rw [if_neg hk0, if_pos ⟨rfl, hv0⟩]
          clear hv0
          go_enter Tryz.func69, Tryz.ntmps69
          go_wp2_with fail
          go_ret
          exact ⟨by rw [unhide HX]; rfl, hb _⟩
      | false =>
        by_cases h3 : 4096 < v.length
        · have e3 : (4096 : Int) < ((v.length : Nat) : Int) := by omega
          have HX : Hid (opE ⟨k, false, v⟩ = 4) := by show _ = _; unfold opE; rw [if_neg hk0, if_neg (by simp), if_pos h3]
          go_enter Tryz.func69, Tryz.ntmps69
          go_wp2_with fail
          go_ret
          exact ⟨by rw [unhide HX]; rfl, hb _⟩
        · have e3 : ¬ (4096 : Int) < ((v.length : Nat) : Int) := by omega
          have HX : Hid (opE ⟨k, false, v⟩ = 0) := by show _ = _; unfold opE; rw [if_neg hk0, if_neg (by simp), if_neg h3]
          go_enter Tryz.func69, Tryz.ntmps69
          go_wp2_with fail
          go_ret
          exact ⟨by rw [unhide HX]; rfl, hb _⟩
#print axioms checkOp6
set_option maxHeartbeats 4000000 in
theorem keyForm6 (x : Im) (w : World) (hk : x.k.length ≤ 128) (hv : x.v.length ≤ 4096) :
    Calls Tryz.prog 62 #[imA x] w fun e w' => ∃ a c r, e = .returned (.slice a r.length c) ∧ Hid (r = kfB x.k x.g x.v) ∧ Hid (OwnB w' w.heap.size a c r) ∧ Hid (Below w.heap.size w w') := by
  obtain ⟨k, g, v, t⟩ := x
  simp only at hk hv
  have e0 : imA ⟨k, g, v, t⟩ = .agg #[.string (str k), .bool g, .string (str v), .int .i64 (t : Int)] := rfl
  rw [e0]
  obtain ⟨V, hV⟩ : ∃ V, V = w.alloc (.cells #[.string (str k), .bool g, .string (str v), .int .i64 (t : Int)] 47) := ⟨_, rfl⟩
  obtain ⟨Z, hZ⟩ : ∃ Z, Z = w.heap.size := ⟨_, rfl⟩
  have hbV : Below w.heap.size w V := by rw [hV]; exact (Below.refl _ _).alloc (Nat.le_refl _) _
  have hrV : V.heap[Z]? = some (.cells #[.string (str k), .bool g, .string (str v), .int .i64 (t : Int)] 47 (0, 0)) := by rw [hZ, hV]; exact heap_alloc_new _ _
  have c0 : V.cell? ⟨Z, 0, none⟩ = some (.string (str k)) := cell_of_row _ _ _ _ _ _ hrV
  have c1 : V.cell? ⟨Z, 1, none⟩ = some (.bool g) := cell_of_row _ _ _ _ _ _ hrV
  have c2 : V.cell? ⟨Z, 2, none⟩ = some (.string (str v)) := cell_of_row _ _ _ _ _ _ hrV
  have HZ : Hid (Z < V.heap.size) := (Array.getElem?_eq_some_iff.1 hrV).1
  have HBV := hide hbV
  have hks : (str k).size = k.length := str_size _
  have hvs : (str v).size = v.length := str_size _
  have HTX := hide (text_any none 0 [] (str k) V (bs_nil6 V) (by simp) (by omega))
  have HTW : Hid (∀ (u : World) (a : Option Addr) (c : Nat) (r : List UInt8), Bs u a c r → r.length ≤ 1000 → Calls Tryz.prog 94 #[.slice a r.length c, .string (str v)] u fun e w' => ∃ a' cap' r', e = .returned (.slice a' r'.length cap') ∧ Hid (r' = r ++ (form v.length ++ v)) ∧ Hid (OwnB w' u.heap.size a' cap' r') ∧ Hid (Below u.heap.size u w')) := fun u a c r hB hl => by
    refine (text_any a c r (str v) u hB (by omega) (by omega)).mono ?_
    rintro e w' ⟨a', cap', r', h1, h2, h3, h4⟩
    refine ⟨a', cap', r', h1, ?_, h3, h4⟩
    show _ = _
    rw [unhide h2, hvs, str_list]
  have HKF : Hid (([] : List UInt8) ++ (form (str k).size ++ (str k).data.toList) = form k.length ++ k) := by show _ = _; rw [hks, str_list]; rfl
  have HFL := hide (form_le k.length)
  clear hrV hbV hks hvs
  go_enter Tryz.func62, Tryz.ntmps62
  go_upto_region 1 with fail
  rw [← hV, ← hZ]
  clear hV hZ
  go_wp2_with fail
  refine (unhide HTX).mono ?_
  rintro e w1 ⟨a1, cp1, r1, rfl, hr1, ho1, hb1⟩
  have HR1 : Hid (r1 = form k.length ++ k) := by show _ = _; rw [unhide hr1, unhide HKF]
  have HO1 := hide ho1
  have HB1 := hide hb1
  have k1 : w1.cell? ⟨Z, 1, none⟩ = some (.bool g) := by rw [hb1.cell (unhide HZ)]; exact c1
  have k2 : w1.cell? ⟨Z, 2, none⟩ = some (.string (str v)) := by rw [hb1.cell (unhide HZ)]; exact c2
  have hrl : r1.length ≤ 200 := by rw [unhide HR1, List.length_append]; have := (unhide HFL).2; omega
  have HBW : Hid (Below w.heap.size w w1) := (unhide HBV).trans (hb1.mono (unhide HBV).size)
  clear hr1 ho1 hb1 HTX HKF c0 c1 c2
  cases g with
  | true =>
    go_wp2_with (at_builtin; refine wp_app _ rfl _ _ rfl V.heap.size a1 cp1 r1 rfl ((unhide HO1).alloc _) (some ⟨w1.heap.size, 0, none⟩) 1 [1] 1 rfl rfl (row_lit _ _ _ rfl) (fun h => by cases h) ?c1 ?c2 ?_)
    case c1 => simp; omega
    case c2 => have := (unhide HB1).size; simp; omega
    intro a2 cp2 r2 w2 hr2 ho2 hg2
    have HB2 : Hid (Below w.heap.size w w2) := below_grown ((unhide HBW).alloc (unhide HBW).size _) hg2 (Nat.le_refl _) (fun j hj => by have h1 := ((unhide HO1).lt j hj).1; have h2 := (unhide HBV).size; omega)
    have HR2 : Hid (r2 = kfB k true v) := by show _ = _; rw [unhide hr2, unhide HR1]; rfl
    have HO2 : Hid (OwnB w2 w.heap.size a2 cp2 r2) := ho2.base (unhide HBV).size
    clear hr2 ho2 hg2
    go_wp2_with fail
    go_ret
    exact ⟨a2, cp2, r2, rfl, HR2, HO2, HB2⟩
  | false =>
    have HKA : Hid (∀ (w2 : World), (w1.drew.alloc (.cells #[.int .u8 0] 5)).grownBy w2 (blk a1) → w2.cell? ⟨Z, 2, none⟩ = some (.string (str v))) := fun w2 hg => by
      have hZ1 : Z < w1.heap.size := World.block_lt_of_cell? _ _ k2
      have e1 : (w1.drew.alloc (.cells #[.int .u8 0] 5)).heap[Z]? = w1.heap[Z]? := Below.heap_alloc _ _ _ hZ1
      rw [World.cell?_of_block (w := w1) (((hg.block Z (by simp; exact Nat.lt_succ_of_lt hZ1) (fun e => by have h1 := ((unhide HO1).lt Z e.symm).1; have h2 := unhide HZ; omega)).trans e1))]
      exact k2
    go_upto_region 4 with fail
    go_region_held3 (fun w' => w'.cell? ⟨Z, 2, none⟩ = some (.string (str v))) (first | exact kB | exact kA | exact k2 | go_keep) ((first
      | (go_at_call 94; refine (unhide HTW _ a2 cp2 r2 (unhide ho2).toBs (by rw [unhide hr2]; simp; omega)).mono ?_; rintro e w3 ⟨a3, cp3, r3, rfl, hr3, ho3, hb3⟩; have kB : w3.cell? ⟨Z, 2, none⟩ = some (.string (str v)) := by (rw [(unhide hb3).cell (World.block_lt_of_cell? _ _ kA)]; exact kA))
      | (refine stp_app2 _ rfl _ _ rfl V.heap.size a1 cp1 r1 _ rfl rfl (((unhide HO1).below (Below.refl _ _).drew (Nat.le_refl _)).alloc _) (some ⟨w1.heap.size, 0, none⟩) 1 [0] _ rfl rfl (row_lit _ _ _ rfl) (fun h => by cases h) (by simp; omega) (by have := (unhide HB1).size; simp; omega) ?_; intro a2 cp2 r2 w2 hr2 ho2 hg2 hloc2; have kA : w2.cell? ⟨Z, 2, none⟩ = some (.string (str v)) := unhide HKA w2 (unhide hg2))))
    have HO3 : Hid (OwnB w3 w.heap.size a3 cp3 r3) := (unhide ho3).base (by have h1 := (unhide HBW).size; have h2 := (unhide hg2).size; simp at h2; omega)
    have HR3 : Hid (r3 = kfB k false v) := by show _ = _; rw [unhide hr3, unhide hr2, unhide HR1]; simp [kfB]
    have HB2 : Hid (Below w.heap.size w w2) := below_grown ((unhide HBW).drew.alloc (unhide HBW).size _) (unhide hg2) (Nat.le_refl _) (fun j hj => by have h1 := ((unhide HO1).lt j hj).1; have h2 := (unhide HBV).size; omega)
    have HB3 : Hid (Below w.heap.size w w3) := (unhide HB2).trans ((unhide hb3).mono (unhide HB2).size)
    clear hr3 ho3 hb3 hr2 ho2 hg2 hloc2 kA kB HKA
    go_wp2_with fail
    go_ret
    exact ⟨a3, cp3, r3, rfl, HR3, HO3, HB3⟩
#print axioms keyForm6
end Go.Proofs.YtmcgghjeocnpnaaGreatDoor
end
section
set_option linter.unusedVariables false
set_option maxRecDepth 1000000
namespace Go.Proofs.YtmcgghjeocnpnaaGreatDoor
open Go.RowKit Go.Maps

/-- A row of ops. -/
structure OpR6 (w : World) (p : Option Addr) (l : List Op6) : Prop where
  mem : l ≠ [] → ∃ b off, p = some ⟨b, off, none⟩ ∧ ∀ t o, l[t]? = some o → w.cell? ⟨b, off + t * 3, none⟩ = some (.string (str o.k)) ∧ w.cell? ⟨b, off + t * 3 + 1, none⟩ = some (.bool o.g) ∧ w.cell? ⟨b, off + t * 3 + 2, none⟩ = some (.string (str o.v))
  le : l.length ≤ maxLen
  sz : ∀ o ∈ l, o.k.length ≤ maxLen ∧ o.v.length ≤ maxLen
theorem OpR6.below {w w' : World} {B : Nat} {p : Option Addr} {l : List Op6} (h : OpR6 w p l) (hb : Below B w w') (hB : w.heap.size ≤ B) : OpR6 w' p l := by
  refine ⟨fun hne => ?_, h.le, h.sz⟩
  obtain ⟨b, off, rfl, hc⟩ := h.mem hne
  refine ⟨b, off, rfl, fun t d hd => ?_⟩
  obtain ⟨c0, c1, c2⟩ := hc t d hd
  have k : ∀ {q : Addr} {v : Value}, w.cell? q = some v → w'.cell? q = some v := fun {q v} e => by
    rw [hb.cell (Nat.lt_of_lt_of_le (World.block_lt_of_cell? w _ e) hB)]; exact e
  exact ⟨k c0, k c1, k c2⟩
/-- Block bm is a map of numbers that has just the keys of these ops. -/
def AH (w : World) (bm : Nat) (l : List Op6) (cnt : Nat) : Prop :=
  ∃ D : DataW Unit, w.ownsMap Tryz.prog 9 (plainElem Tryz.prog 3) bm cnt D ∧ ∀ n, Maps.has D (.string n) = l.any (fun p => p.k == n)
theorem AH.same {w w' : World} {bm cnt : Nat} {l : List Op6} (h : AH w bm l cnt) (x : w'.heap[bm]? = w.heap[bm]?) : AH w' bm l cnt := by
  obtain ⟨D, h1, h2⟩ := h
  exact ⟨D, ownsMap_same h1 x, h2⟩
theorem AH.lt {w : World} {bm cnt : Nat} {l : List Op6} (h : AH w bm l cnt) : bm < w.heap.size := by
  obtain ⟨D, h1, _⟩ := h
  exact h1.lt
theorem AH.made (w : World) : AH (w.alloc (.map #[] 0)) w.heap.size [] 0 := ⟨.map [], World.ownsMap_made _ _ _ _, fun n => rfl⟩
theorem AH.at {w : World} {bm cnt : Nat} {l : List Op6} (h : AH w bm l cnt) (n : Nm) (hn : n.length ≤ maxLen) (w' : World) (hw : w'.heap[bm]? = w.heap[bm]?) :
    ∃ v, (Instr.lookup 77 (.map (some bm)) (.string (str n)) true).run Tryz.prog w' = .ok (.tuple #[v, .bool (l.any (fun p => p.k == n))]) w' := by
  obtain ⟨D, h1, h2⟩ := h
  obtain ⟨v, ps, s1, s2⟩ := (ownsMap_same h1 hw).look_ok law Tryz.underlying77 (zeroI w') (plainElem_int Tryz.underlying3 (by decide)) (key_str n hn)
  rw [h2 n] at s1
  exact ⟨v, s1⟩
theorem AH.put {w : World} {bm cnt : Nat} {l : List Op6} (h : AH w bm l cnt) (o : Op6) (hn : o.k.length ≤ maxLen) (hc : cnt < maxLen) (z : Int) (hz : (Lit.int .i64 z).wf = true) :
    ∃ w2, (Instr.mapUpdate 77 (.map (some bm)) (.string (str o.k)) (.int .i64 z)).run Tryz.prog w = .ok () w2 ∧ AH w2 bm (l ++ [o]) (cnt + 1) ∧ w.grownBy w2 (some bm) := by
  obtain ⟨D, h1, h2⟩ := h
  obtain ⟨w2, r1, r2, r3⟩ := h1.store law Tryz.underlying77 hc (key_str o.k hn) (plainElem_int Tryz.underlying3 hz)
  refine ⟨w2, r1, ⟨_, r2, fun m => ?_⟩, r3.grown⟩
  rw [List.any_append]
  by_cases hm : m = o.k
  · subst hm
    rw [Maps.has_put_same h1.isMap (by trivial)]
    simp
  · rw [Maps.has_put_other (fun e => hm (by simpa using e)), h2 m]
    have : (o.k == m) = false := by rw [beq_eq_false_iff_ne]; exact fun e => hm e.symm
    simp [this]
theorem opsE_at (l : List Op6) (k : Nat) (o : Op6) (h : l[k]? = some o) : opsE (l.take k) (l.drop k) = if opE o ≠ 0 then opE o else if (l.take k).any (fun p => p.k == o.k) then 61 else opsE (l.take (k + 1)) (l.drop (k + 1)) := by
  have hk := (List.getElem?_eq_some_iff.1 h).1
  have e : l.drop k = o :: l.drop (k + 1) := by
    rw [List.drop_eq_getElem_cons hk]
    congr 1
    have := List.getElem?_eq_getElem hk
    rw [h] at this
    exact (Option.some.inj this).symm
  rw [e]
  show (if opE o ≠ 0 then opE o else if (l.take k).any (fun p => p.k == o.k) then 61 else opsE (l.take k ++ [o]) (l.drop (k + 1))) = _
  rw [List.take_add_one, h]
  rfl
theorem run_mkmap6 (z : Int) (w : World) : (Instr.makeMap 77 (some (.int .i64 z))).run Tryz.prog w = .ok (.map (some w.heap.size)) (w.alloc (.map #[] 0)) := by
  simp [Instr.makeMap, run_underlying Tryz.underlying77, asInt, asIntOf, go_sem]
set_option maxHeartbeats 4000000 in
theorem checkOps6 (p : Option Addr) (pc : Nat) (l : List Op6) (w : World) (h : OpR6 w p l) :
    Calls Tryz.prog 35 #[.slice p l.length pc] w fun e w' => e = .returned (.int .i64 (ckE l : Int)) ∧ Hid (Below w.heap.size w w') := by
  have hle := h.le
  unfold maxLen at hle
  by_cases h1 : l.length < 1
  · have e1 : (l.length : Int) < 1 := by omega
    have HX : Hid (ckE l = 1) := by show _ = _; unfold ckE; rw [if_pos (.inl h1)]
    go_enter Tryz.func35, Tryz.ntmps35
    go_wp2_with fail
    go_ret
    exact ⟨by rw [unhide HX]; rfl, Below.refl _ _⟩
  · have e1 : ¬ (l.length : Int) < 1 := by omega
    by_cases h2 : 256 < l.length
    · have e2 : (256 : Int) < (l.length : Int) := by omega
      have HX : Hid (ckE l = 1) := by show _ = _; unfold ckE; rw [if_pos (.inr h2)]
      go_enter Tryz.func35, Tryz.ntmps35
      go_wp2_with fail
      go_ret
      exact ⟨by rw [unhide HX]; rfl, Below.refl _ _⟩
    · have e2 : ¬ (256 : Int) < (l.length : Int) := by omega
      obtain ⟨X, hX⟩ : ∃ X, X = ckE l := ⟨_, rfl⟩
      have HX0 : Hid (X = opsE (l.take 0) (l.drop 0)) := by show _ = _; rw [hX]; unfold ckE; rw [if_neg (by omega)]; simp
      rw [← hX]
      have HH := hide h
      have hmm := fun z => run_mkmap6 z w
      obtain ⟨V, hV⟩ : ∃ V, V = w.alloc (.map #[] 0) := ⟨_, rfl⟩
      have HA0 : Hid (AH V w.heap.size [] 0) := by rw [hV]; exact AH.made w
      have HB0 : Hid (Below w.heap.size w V) := by rw [hV]; exact (Below.refl _ _).alloc (Nat.le_refl _) _
      clear hX h
      go_enter Tryz.func35, Tryz.ntmps35
      go_wp2_with fail
      rw [← hV]
      clear hV hmm
      go_loopw [22] (fun i wr => ∃ k : Nat, k ≤ l.length ∧ i = .int .i64 (k : Int) ∧ Hid (X = opsE (l.take k) (l.drop k)) ∧ Hid (AH wr w.heap.size (l.take k) k) ∧ Hid (Below w.heap.size w wr)) (fun i _ => l.length - (intOf i).toNat)
      case atStart => exact ⟨0, Nat.zero_le _, rfl, HX0, HA0, HB0⟩
      case round =>
        clear HX0 HA0 HB0
        obtain ⟨k, hk, rfl, HX, HA, HB⟩ := hrel
        by_cases hlt : k < l.length
        · have hlt' : (k : Int) < (l.length : Int) := by omega
          obtain ⟨o, ho⟩ : ∃ o, l[k]? = some o := ⟨_, List.getElem?_eq_getElem hlt⟩
          obtain ⟨b, off, rfl, hc⟩ := (unhide HH).mem (by intro e; subst e; simp at ho)
          obtain ⟨c0, c1, c2⟩ := hc k o ho
          have kk : ∀ {q : Addr} {v : Value}, w.cell? q = some v → wr.cell? q = some v := fun {q v} e => by
            rw [(unhide HB).cell (World.block_lt_of_cell? w _ e)]; exact e
          have k0 := kk c0
          have k1 := kk c1
          have k2 := kk c2
          obtain ⟨W, hW⟩ : ∃ W, W = wr.alloc (.cells #[.string (str o.k), .bool o.g, .string (str o.v)] 55) := ⟨_, rfl⟩
          obtain ⟨Z, hZ⟩ : ∃ Z, Z = wr.heap.size := ⟨_, rfl⟩
          have hbW : Below wr.heap.size wr W := by rw [hW]; exact (Below.refl _ _).alloc (Nat.le_refl _) _
          have hrW : W.heap[Z]? = some (.cells #[.string (str o.k), .bool o.g, .string (str o.v)] 55 (0, 0)) := by rw [hZ, hW]; exact heap_alloc_new _ _
          have d0 : W.cell? ⟨Z, 0, none⟩ = some (.string (str o.k)) := cell_of_row _ _ _ _ _ _ hrW
          have d1 : W.cell? ⟨Z, 1, none⟩ = some (.bool o.g) := cell_of_row _ _ _ _ _ _ hrW
          have d2 : W.cell? ⟨Z, 2, none⟩ = some (.string (str o.v)) := cell_of_row _ _ _ _ _ _ hrW
          obtain ⟨sk, sv⟩ := (unhide HH).sz o (List.mem_of_getElem? ho)
          have HCK := hide (checkOp6 o W sk sv)
          have HAT := hide (opsE_at l k o ho)
          have HBW : Hid (Below w.heap.size w W) := (unhide HB).trans (hbW.mono (unhide HB).size)
          have HLW : Hid (Z < W.heap.size ∧ w.heap.size < W.heap.size) := ⟨(Array.getElem?_eq_some_iff.1 hrW).1, Nat.lt_of_lt_of_le (unhide HA).lt hbW.size⟩
          have HAW : Hid (AH W w.heap.size (l.take k) k) := (unhide HA).same (hbW.block _ (unhide HA).lt)
          clear kk c0 c1 c2 hc hbW hrW HB HA
          go_upto_region 7 with fail
          rw [← hW, ← hZ]
          clear hW hZ k0 k1 k2
          generalize hoe : opE o = E at *
          have HOE := hide hoe
          clear hoe
          go_wp2_with fail
          refine (unhide HCK).mono ?_
          rintro e w2 ⟨rfl, HB2⟩
          clear HCK
          by_cases hE0 : E = 0
          · subst hE0
            have f0 : w2.cell? ⟨Z, 0, none⟩ = some (.string (str o.k)) := by rw [(unhide HB2).cell (unhide HLW).1]; exact d0
            have HA2 : Hid (AH w2 w.heap.size (l.take k) k) := (unhide HAW).same ((unhide HB2).block _ (unhide HLW).2)
            obtain ⟨v, hlk⟩ := (unhide HA2).at o.k sk w2 rfl
            generalize hb : (l.take k).any (fun p => p.k == o.k) = b at *
            have HBW2 : Hid (Below w.heap.size w w2) := (unhide HBW).trans ((unhide HB2).mono (unhide HBW).size)
            cases b with
            | true =>
              have HXF : Hid (X = 61) := by
                show _ = _
                rw [unhide HX, unhide HAT]
                rfl
              clear hb
              go_wp2_with fail
              go_ret
              exact ⟨by rw [unhide HXF]; rfl, HBW2⟩
            | false =>
              have HXN : Hid (X = opsE (l.take (k + 1)) (l.drop (k + 1))) := by
                show _ = _
                rw [unhide HX, unhide HAT]
                rfl
              obtain ⟨w3, hup, hA3, hg3⟩ := (unhide HA2).put o sk (by unfold maxLen; omega) (k : Int) (wf_i64 (by omega) (by omega))
              have HA3 : Hid (AH w3 w.heap.size (l.take (k + 1)) (k + 1)) := by
                show AH _ _ _ _
                rw [List.take_add_one, ho]
                exact hA3
              have HB3 : Hid (Below w.heap.size w w3) := (unhide HBW2).grown hg3 (unhide HBW2).size (fun j hj => by rw [← Option.some.inj hj]; exact Nat.le_refl _)
              clear hb hA3 hg3
              go_wp2_with fail
              go_roundw
              case rel => exact ⟨k + 1, by omega, by go_num, HXN, HA3, HB3⟩
              case measure => simp [intOf]; omega
          · have hE1 : ((E : Nat) : Int) ≠ 0 := by omega
            have hE2 : (((E : Nat) : Int) == 0) = false := by rw [beq_eq_false_iff_ne]; exact hE1
            have HXF : Hid (X = E) := by
              show _ = _
              rw [unhide HX, unhide HAT, if_pos hE0]
            have HBW2 : Hid (Below w.heap.size w w2) := (unhide HBW).trans ((unhide HB2).mono (unhide HBW).size)
            go_wp2_with fail
            go_ret
            exact ⟨by rw [unhide HXF]; rfl, HBW2⟩
        · obtain rfl : k = l.length := by omega
          have HXF : Hid (X = 0) := by
            show _ = _
            rw [unhide HX, List.drop_length]
            rfl
          go_wp2_with fail
          go_ret
          exact ⟨by rw [unhide HXF]; rfl, HB⟩
#print axioms checkOps6
end Go.Proofs.YtmcgghjeocnpnaaGreatDoor
end
section
set_option linter.unusedVariables false
set_option maxRecDepth 1000000
namespace Go.Proofs.YtmcgghjeocnpnaaGreatDoor
open Go.RowKit Go.Maps

/-- What items that may be written are like. -/
def OkI (l : List Im) : Prop := ∀ x ∈ l, x.k.length ≤ 128 ∧ x.v.length ≤ 4096
def kfs (l : List Im) : List UInt8 := l.flatMap fun x => kfB x.k x.g x.v
theorem kfs_take (l : List Im) (k : Nat) (x : Im) (h : l[k]? = some x) : kfs (l.take (k + 1)) = kfs (l.take k) ++ kfB x.k x.g x.v := by
  unfold kfs
  rw [List.take_add_one, h]
  simp
theorem kfs_len : ∀ (l : List Im), OkI l → (kfs l).length ≤ l.length * 4300
  | [], _ => by simp [kfs]
  | x :: r, h => by
    have h1 := kfB_len x.k x.v x.g (h x (by simp)).1 (h x (by simp)).2
    have h2 := kfs_len r (fun y hy => h y (by simp [hy]))
    have e : kfs (x :: r) = kfB x.k x.g x.v ++ kfs r := rfl
    rw [e, List.length_append, List.length_cons]
    omega
set_option maxHeartbeats 4000000 in
theorem commitRec6 (t : Nat) (a : Option Addr) (c : Nat) (l : List Im) (w : World) (h : OwnM w a c l) (ok : OkI l) (hl : l.length ≤ 1000) (ht : t ≤ 9223372036854775807) :
    Calls Tryz.prog 37 #[.int .i64 (t : Int), .slice a l.length c] w fun e w' => ∃ a' c' r, e = .returned (.slice a' r.length c') ∧ Hid (r = cmB t l) ∧ Hid (OwnB w' w.heap.size a' c' r) ∧ Hid (Below w.heap.size w w') := by
  have HH := hide h
  have HOK := hide ok
  obtain ⟨V, hV⟩ : ∃ V, V = w.alloc (.cells #[.int .u8 1] 5) := ⟨_, rfl⟩
  have hbV : Below w.heap.size w V := by rw [hV]; exact (Below.refl _ _).alloc (Nat.le_refl _) _
  have hB1 : Bs V (some ⟨w.heap.size, 0, none⟩) 1 [1] := by rw [hV]; exact lit_one w (0, 0) 1 1 rfl
  have HN1 := hide (number_any (some ⟨w.heap.size, 0, none⟩) 1 [1] (t : Int) V hB1 (by simp) (by omega) (by omega))
  have HBV := hide hbV
  have HCM : Hid (cmB t l = [1] ++ form t ++ form l.length ++ kfs l) := by show _ = _; unfold cmB kfs; simp
  have HF1 := hide (form_le t)
  have HF2 := hide (form_le l.length)
  clear h ok hB1 hbV
  go_enter Tryz.func37, Tryz.ntmps37
  go_wp2_with fail
  rw [← hV]
  clear hV
  refine (unhide HN1).mono ?_
  rintro e w1 ⟨a1, c1, r1, rfl, hr1, ho1, hb1⟩
  have hr1b : r1.length ≤ 20 := by rw [unhide hr1]; simp; have := (unhide HF1).2; omega
  have HN2 := hide (number_any a1 c1 r1 (l.length : Int) w1 ho1.toBs (by omega) (by omega) (by omega))
  have HR1 : Hid (r1 = [1] ++ form t) := by show _ = _; rw [unhide hr1]; rfl
  have HB1 : Hid (Below w.heap.size w w1) := (unhide HBV).trans (hb1.mono (unhide HBV).size)
  clear hr1 ho1 hb1 HN1
  go_wp2_with fail
  refine (unhide HN2).mono ?_
  rintro e w2 ⟨a2, c2, r2, rfl, hr2, ho2, hb2⟩
  have HB2 : Hid (Below w.heap.size w w2) := (unhide HB1).trans (hb2.mono (unhide HB1).size)
  have HR2 : Hid (r2 = [1] ++ form t ++ form l.length ++ kfs (l.take 0)) := by show _ = _; rw [unhide hr2, unhide HR1]; simp [kfs]
  have HO2 : Hid (OwnB w2 w.heap.size a2 c2 r2) := ho2.base (unhide HB1).size
  clear hr2 ho2 hb2 HN2
  go_wp2_with fail
  go_loopw [5, 17] (fun v i wr => ∃ (k : Nat) (a' : Option Addr) (c' : Nat) (r : List UInt8), k ≤ l.length ∧ i = .int .i64 (k : Int) ∧ v = .slice a' r.length c' ∧ Hid (r = [1] ++ form t ++ form l.length ++ kfs (l.take k)) ∧ Hid (OwnB wr w.heap.size a' c' r) ∧ Hid (Below w.heap.size w wr)) (fun _ i _ => l.length - (intOf i).toNat)
  case atStart => exact ⟨0, a2, c2, r2, Nat.zero_le _, rfl, rfl, HR2, HO2, HB2⟩
  case round =>
    clear HR2 HO2 HB2 HB1 HR1
    obtain ⟨k, a', c', r, hk, rfl, rfl, HR, HO, HB⟩ := hrel
    by_cases hlt : k < l.length
    · have hlt' : (k : Int) < (l.length : Int) := by omega
      obtain ⟨x, hx⟩ : ∃ x, l[k]? = some x := ⟨_, List.getElem?_eq_getElem hlt⟩
      obtain ⟨G, hae, d0, d1, d2, d3, _⟩ := (unhide HH).at hx
      subst hae
      have kk : ∀ {q : Addr} {v : Value}, w.cell? q = some v → wr.cell? q = some v := fun {q v} e => by
        rw [(unhide HB).cell (World.block_lt_of_cell? w _ e)]; exact e
      have k0 := kk d0
      have k1 := kk d1
      have k2 := kk d2
      have k3 := kk d3
      obtain ⟨W, hW⟩ : ∃ W, W = wr.alloc (.cells #[.string (str x.k), .bool x.g, .string (str x.v), .int .i64 (x.t : Int)] 47) := ⟨_, rfl⟩
      obtain ⟨Z, hZ⟩ : ∃ Z, Z = wr.heap.size := ⟨_, rfl⟩
      have hbW : Below wr.heap.size wr W := by rw [hW]; exact (Below.refl _ _).alloc (Nat.le_refl _) _
      have hrW : W.heap[Z]? = some (.cells #[.string (str x.k), .bool x.g, .string (str x.v), .int .i64 (x.t : Int)] 47 (0, 0)) := by rw [hZ, hW]; exact heap_alloc_new _ _
      have e0 : W.cell? ⟨Z, 0, none⟩ = some (.string (str x.k)) := cell_of_row _ _ _ _ _ _ hrW
      have e1 : W.cell? ⟨Z, 1, none⟩ = some (.bool x.g) := cell_of_row _ _ _ _ _ _ hrW
      have e2 : W.cell? ⟨Z, 2, none⟩ = some (.string (str x.v)) := cell_of_row _ _ _ _ _ _ hrW
      have e3 : W.cell? ⟨Z, 3, none⟩ = some (.int .i64 (x.t : Int)) := cell_of_row _ _ _ _ _ _ hrW
      obtain ⟨xk, xv⟩ := unhide HOK x (List.mem_of_getElem? hx)
      have HKF : Hid (Calls Tryz.prog 62 #[.agg #[.string (str x.k), .bool x.g, .string (str x.v), .int .i64 (x.t : Int)]] W fun e w' => ∃ a c r, e = .returned (.slice a r.length c) ∧ Hid (r = kfB x.k x.g x.v) ∧ Hid (OwnB w' W.heap.size a c r) ∧ Hid (Below W.heap.size W w')) := keyForm6 x W xk xv
      have HKT := hide (kfs_take l k x hx)
      have hkl := kfB_len x.k x.v x.g xk xv
      have hrl : r.length ≤ 5000000 := by
        rw [unhide HR]
        have h1 := kfs_len (l.take k) (fun y hy => unhide HOK y (List.mem_of_mem_take hy))
        have h2 := (unhide HF1).2
        have h3 := (unhide HF2).2
        simp only [List.length_append, List.length_take] at h1 ⊢
        simp
        omega
      have HBW : Hid (Below w.heap.size w W) := (unhide HB).trans (hbW.mono (unhide HB).size)
      have HOW := hide ((unhide HO).below hbW (Nat.le_refl _))
      clear kk d0 d1 d2 d3 hbW hrW HB HO hx
      go_upto_region 6 with fail
      rw [← hW, ← hZ]
      clear hW hZ k0 k1 k2 k3
      go_wp2_with fail
      refine (unhide HKF).mono ?_
      rintro e w3 ⟨a3, c3, r3, rfl, HR3, HO3, HB3⟩
      have hr3 : r3.length ≤ 4300 := by rw [unhide HR3]; exact hkl
      have HBW3 : Hid (Below w.heap.size w w3) := (unhide HBW).trans ((unhide HB3).mono (unhide HBW).size)
      have HOW3 := hide ((unhide HOW).below (unhide HB3) (Nat.le_refl _))
      clear HKF HOW HBW hkl
      go_wp2_with (at_builtin; refine wp_app _ rfl _ _ rfl w.heap.size a' c' r rfl (unhide HOW3) a3 c3 r3 r3.length rfl rfl (unhide HO3).toBs.row (unhide HO3).toBs.nz ?c1 ?c2 ?_)
      case c1 => omega
      case c2 => exact (unhide HBW3).size
      intro a4 c4 r4 w4 hr4 ho4 hg4
      have HB4 : Hid (Below w.heap.size w w4) := below_grown (unhide HBW3) hg4 (Nat.le_refl _) (fun j hj => ((unhide HOW3).lt j hj).1)
      have HR4 : Hid (r4 = [1] ++ form t ++ form l.length ++ kfs (l.take (k + 1))) := by show _ = _; rw [unhide hr4, unhide HR, unhide HR3, unhide HKT]; simp
      have HO4 := hide ho4
      clear hr4 ho4 hg4 HOW3 HBW3 HO3 HB3 HR3
      go_wp2_with fail
      go_roundw
      case rel => exact ⟨k + 1, a4, c4, r4, by omega, by go_num, rfl, HR4, HO4, HB4⟩
      case measure => simp [intOf]; omega
    · obtain rfl : k = l.length := by omega
      have HRF : Hid (r = cmB t l) := by show _ = _; rw [unhide HR, List.take_length, unhide HCM]
      go_wp2_with fail
      go_ret
      exact ⟨a', c', r, rfl, HRF, HO, HB⟩
#print axioms commitRec6
end Go.Proofs.YtmcgghjeocnpnaaGreatDoor
end
section
set_option linter.unusedVariables false
set_option maxRecDepth 1000000
namespace Go.Proofs.YtmcgghjeocnpnaaGreatDoor
open Go.RowKit Go.Maps

/-- What Append says and leaves. -/
def ApR (w : World) (g : Nat → Tg) (B D : Nat) (M : Md) (N : Nat) (S : List Sg) (rec : List UInt8) (w' : World) (n : Nat) (E : Int) : Prop :=
  E = apE M S rec ∧ ((E = 0 ∧ n = nxS S ∧ RL w w' g B D ((apD M S).write (nmS (apN S)) (frmN (nxS S) rec)) (N + 2) (apS S rec)) ∨ (E ≠ 0 ∧ n = 0 ∧ ∃ M', (M' = M ∨ M' = apD M S) ∧ RL w w' g B D M' (N + 2) S))
theorem write_bad {M : Md} {n : Nm} {b : List UInt8} (h : M.writeE n b.length ≠ 0) : M.write n b = M := by unfold Md.write; rw [if_neg h]
set_option maxHeartbeats 16000000 in
theorem append5 (w0 : World) (g : Nat → Tg) (B D : Nat) (P : Option Addr) (pc : Nat) (l : List Gt) (S : List Sg) (M : Md) (N : Nat) (x : Option Addr) (xc : Nat) (rec : List UInt8) (w : World) (hE : EnvS w0) (hL : LW w0 w g) (h : LgS w g B D P pc l S) (hd : DK w g 0 D M N) (ok : SOk S) (wf : Wf S) (hN : N ≤ 1300) (hx : Bs w x xc rec) (hxt : ∀ k, blk x = some k → k < w.heap.size ∧ ¬ X01 (g k)) (hxl : rec.length ≤ 1000000)
    (hsl : S.length + 1 ≤ 1000000) (hsr : (S.flatMap (·.recs)).length + 1 ≤ 1000000) (hsz : bySz S + 70000 ≤ 9000000000000000000) (hsy : fullS S → syE M S = 0) :
    Calls Tryz.prog 33 #[.pointer (some ⟨B, 0, none⟩), .slice x rec.length xc] w fun e w' => ∃ (n : Nat) (E : Int), e = .returned (.tuple #[.int .i64 (n : Int), .int .i64 E]) ∧ ApR w g B D M N S rec w' n E := by
  have HU := hide (unmade5 h.c0)
  have HNX := hide (next5 g B D P pc l S w h ok)
  have hnm : nxS S ≤ 9223372036854775807 := by
    unfold nxS
    cases hg : S.getLast? with
    | none => simp
    | some s => exact ok.nx s (List.mem_of_getLast? hg)
  have HAR : Hid (∀ w' n E, (E = apE M S rec ∧ ((E = 0 ∧ n = nxS S ∧ RL w w' g B D ((apD M S).write (nmS (apN S)) (frmN (nxS S) rec)) (N + 2) (apS S rec)) ∨ (E ≠ 0 ∧ n = 0 ∧ ∃ M', (M' = M ∨ M' = apD M S) ∧ RL w w' g B D M' (N + 2) S))) → ApR w g B D M N S rec w' n E) := fun _ _ _ h => h
  have HAE0 : Hid (apE M S rec = if nxS S = 9223372036854775807 then 5 else if 65536 < (form (nxS S) ++ rec).length then 4 else (apD M S).writeE (nmS (apN S)) (frmN (nxS S) rec).length) := rfl
  have HFD : Hid (frmN (nxS S) rec = frameOf (form (nxS S) ++ rec)) := rfl
  obtain ⟨n, hn⟩ : ∃ n, n = nxS S := ⟨_, rfl⟩
  rw [← hn] at HNX hnm HAE0 HFD
  have HN0 := hide hn
  have HH := hide h
  have HD := hide hd
  have HLW := hide hL
  have HEE := hide hE
  have HX := hide hx
  have HXT0 := hide hxt
  have HWF := hide wf
  have HOK := hide ok
  have HSY := hide hsy
  have hxn : x = none → xc = 0 := hx.nz
  clear h hd hL hE hx hxt wf ok hsy hn
  unfold ApR
  rw [← unhide HN0]
  have HAR2 : Hid True := trivial
  clear HAR HAR2
  by_cases hmx : n = 9223372036854775807
  · have e0 : ((n : Int) == 9223372036854775807) = true := by rw [hmx]; rfl
    have HAE : Hid (apE M S rec = 5) := by show _ = _; rw [unhide HAE0, if_pos hmx]
    clear HAE0 hmx
    go_enter Tryz.func33, Tryz.ntmps33
    go_wp2_with fail
    refine (unhide HU).mono ?_
    rintro e v0 ⟨rfl, hv0⟩
    have hv1 := hv0.symm
    subst hv1
    clear hv0 HU
    go_wp2_with fail
    refine (unhide HNX).mono ?_
    rintro e v1 ⟨rfl, HB1⟩
    clear HNX
    go_wp2_with fail
    go_ret2
    exact ⟨0, 5, rfl, (unhide HAE).symm, .inr ⟨by decide, rfl, M, .inl rfl, (RL.same (unhide HH) (unhide HD) (unhide HB1)).monoN (by omega)⟩⟩
  have e0 : ((n : Int) == 9223372036854775807) = false := by rw [beq_eq_false_iff_ne]; omega
  have HAE1 : Hid (apE M S rec = if 65536 < (form n ++ rec).length then 4 else (apD M S).writeE (nmS (apN S)) (frmN n rec).length) := by show _ = _; rw [unhide HAE0, if_neg hmx]
  have hfm := (form_len n hnm).1
  have HNU : Hid (∀ v, Calls Tryz.prog 61 #[.slice none 0 0, .int .i64 (n : Int)] v fun e w' => ∃ a' cap' r, e = .returned (.slice a' r.length cap') ∧ Hid (r = [] ++ form (n : Int).toNat) ∧ OwnB w' v.heap.size a' cap' r ∧ Below v.heap.size v w') := fun v => number_any none 0 [] (n : Int) v (bs_nil v) (by simp) (by omega) (by omega)
  clear HAE0
  go_enter Tryz.func33, Tryz.ntmps33
  go_wp2_with fail
  refine (unhide HU).mono ?_
  rintro e v0 ⟨rfl, hv0⟩
  have hv1 := hv0.symm
  subst hv1
  clear hv0 HU
  go_wp2_with fail
  refine (unhide HNX).mono ?_
  rintro e v1 ⟨rfl, HB1⟩
  clear HNX
  go_wp2_with fail
  refine (unhide HNU _).mono ?_
  rintro e v2 ⟨a1, c1, r1, rfl, hr1, ho1, hb2⟩
  have hrf : r1 = form n := by have := unhide hr1; rw [Int.toNat_natCast] at this; simpa using this
  have HRF := hide hrf
  have hr1l : r1.length ≤ 9 := by rw [hrf]; exact hfm
  have HB2 : Hid (Below w.heap.size w v2) := (unhide HB1).trans (hb2.mono (unhide HB1).size)
  have hrow2 := ((unhide HX).below (unhide HB2) (Nat.le_refl _)).row
  have hb2s := hb2.size
  clear HNU hr1 hrf
  go_wp2_with (at_builtin; refine wp_app _ rfl _ _ rfl v1.heap.size a1 c1 r1 rfl ho1 x xc rec rec.length rfl rfl hrow2 hxn (by omega) hb2s ?_; intro a2 c2 r2 v3 HR2 ho2 hg2)
  have HB3 : Hid (Below w.heap.size w v3) := below_grown (unhide HB2) hg2 (Nat.le_refl _) (fun k hk => by have := (ho1.lt k hk).1; have := (unhide HB1).size; omega)
  have HR2F : Hid (r2 = form n ++ rec) := by show _ = _; rw [unhide HR2, unhide HRF]
  have HFR := hide (frame_any a2 r2.length c2 r2 v3 ho2.toBs rfl)
  clear ho1 hb2 hrow2 hb2s HR2 HRF ho2 hg2 HB2 HB1 hr1l
  refine (unhide HFR).mono ?_
  rintro e v4 ⟨a3, c3, fb, E, rfl, hfe, ho4, hb4⟩
  have HB4 : Hid (Below w.heap.size w v4) := (unhide HB3).trans (hb4.mono (unhide HB3).size)
  have hw3 := (unhide HB3).size
  clear HFR HB3
  by_cases hbig : 65536 < r2.length
  · obtain ⟨rfl, rfl⟩ : fb = [] ∧ E = 4 := by
      have := unhide hfe
      rw [frameE, if_pos hbig] at this
      simpa using this
    have HAE : Hid (apE M S rec = 4) := by show _ = _; rw [unhide HAE1, if_pos (by rw [← unhide HR2F]; exact hbig)]
    clear hfe hbig HAE1
    go_wp2_with fail
    go_ret2
    exact ⟨0, 4, rfl, (unhide HAE).symm, .inr ⟨by decide, rfl, M, .inl rfl, (RL.same (unhide HH) (unhide HD) (unhide HB4)).monoN (by omega)⟩⟩
  obtain ⟨hfbe, rfl⟩ : fb = frmN n rec ∧ E = 0 := by
    have := unhide hfe
    rw [frameE, if_neg hbig] at this
    simp only [Prod.mk.injEq] at this
    rw [unhide HFD, ← unhide HR2F]
    exact this
  have HAE2 : Hid (apE M S rec = (apD M S).writeE (nmS (apN S)) (frmN n rec).length) := by show _ = _; rw [unhide HAE1, if_neg (by rw [← unhide HR2F]; exact hbig)]
  have hfl7 : fb.length = r2.length + 7 := by rw [hfbe, unhide HFD, ← unhide HR2F]; exact frameOf_length r2
  have hfl : fb.length ≤ 65600 := by omega
  have HFB := hide hfbe
  have HO4 := hide ho4
  let g4 : Nat → Tg := fun b => if b < w.heap.size then g b else .o
  have st4 : St w v4 g g4 (fun _ => False) := (St.ofBelow g _ (unhide HB4)).tag (fun k hk => if_pos hk)
  have hh4 := (unhide HH).keep st4 (fun _ _ e => e)
  have hd4 := (unhide HD).keep1 (st4.mono (fun t e => e.elim))
  have hL4 := (unhide HLW).st2 st4 (fun e => e)
  have HST4 : Hid (St w v4 g g4 X01) := st4.mono (fun t e => e.elim)
  have HX4 := hide ((unhide HX).below (unhide HB4) (Nat.le_refl _))
  have HXT : Hid (∀ k, blk x = some k → k < v4.heap.size ∧ ¬ X01 (g4 k)) := fun k hk => ⟨Nat.lt_of_lt_of_le (unhide HXT0 k hk).1 (unhide HB4).size, by rw [st4.ag k (unhide HXT0 k hk).1]; exact (unhide HXT0 k hk).2⟩
  have hft : ∀ k, blk a3 = some k → k < v4.heap.size ∧ ¬ X01 (g4 k) := fun k hk => ⟨(ho4.lt k hk).2, by
    have h1 := (ho4.lt k hk).1
    have : g4 k = .o := if_neg (by omega)
    rw [this]; exact x01o⟩
  by_cases hin : ∃ s, S.getLast? = some s ∧ s.size < 4096
  · obtain ⟨s1, hl1, hs4⟩ := hin
    have HWR := hide (write_in w0 g4 B D P pc l S M N (n : Int) a3 c3 fb s1 v4 (unhide HEE) hL4 hh4 hd4 (unhide HOK) (by omega) ho4.toBs hfl hl1 hs4)
    obtain ⟨n1, hn1⟩ : ∃ n1, S.length = n1 + 1 := by
      cases S with
      | nil => cases hl1
      | cons a r => exact ⟨r.length, rfl⟩
    have hs1 : S[n1]? = some s1 := by rw [← getLast_at S n1 hn1]; exact hl1
    have hn16 : n1 ≤ 1000000 := by omega
    have hmem := List.mem_of_getElem? hs1
    have hrm : s1.recs.length ≤ 1000000 := by
      have := recs_le hmem
      omega
    have hzm : s1.size + fb.length ≤ 9000000000000000000 := by
      have := size_le hmem
      omega
    have HAP : Hid (∀ i u, i < n1 → S[i]? = some u → u.first ≠ s1.first) := (unhide HWF).apart hs1
    obtain ⟨SF, hSF⟩ : ∃ SF, SF = S.take n1 ++ [s1.put rec fb.length] := ⟨_, rfl⟩
    have HSF := hide hSF
    have HSE : Hid (apS S rec = SF) := by
      show _ = _
      rw [hSF, hfbe]
      unfold apS
      rw [hl1]
      simp only
      rw [if_pos hs4, hn1, ← unhide HN0]
      rfl
    have HDD : Hid (apD M S = M ∧ apN S = s1.first) := by
      refine ⟨?_, ?_⟩
      · unfold apD; rw [hl1]; exact if_pos hs4
      · unfold apN; rw [hl1]; exact if_pos hs4
    obtain ⟨M5, hM5⟩ : ∃ M5, M5 = M.write (nmS s1.first) fb := ⟨_, rfl⟩
    have HMD : Hid ((apD M S).write (nmS (apN S)) (frmN n rec) = M5) := by show _ = _; rw [(unhide HDD).1, (unhide HDD).2, hM5, hfbe]
    obtain ⟨E1, hE1⟩ : ∃ E1, E1 = M.writeE (nmS s1.first) fb.length := ⟨_, rfl⟩
    have HAE3 : Hid (apE M S rec = E1) := by show _ = _; rw [unhide HAE2, (unhide HDD).1, (unhide HDD).2, hE1, hfbe]
    have HM5 := hide hM5
    have HE1 := hide hE1
    rw [← hE1, ← hM5] at HWR
    clear hfe hbig HAE1 HAE2 st4 hh4 hd4 hL4 hft hl1 hs4 hmem hSF hE1 hM5 hfl7 ho4 hb4 hfbe HWF
    generalize g4 = g4' at *
    clear g4
    obtain ⟨g4, hg4⟩ : ∃ g4, g4 = g4' := ⟨_, rfl⟩
    rw [← hg4] at HST4 HXT HWR
    clear hg4 g4'
    by_cases he1 : E1 = 0
    · subst he1
      have HAE : Hid ((0 : Int) = apE M S rec) := (unhide HAE3).symm
      clear HAE3
      go_wp2_with fail
      refine (unhide HWR).mono ?_
      rintro e v5 ⟨rfl, HRW⟩
      have HR5 : Hid (RL v4 v5 g4 B D M5 (N + 2) S) := (unhide HRW).monoN (by omega)
      clear HWR HRW
      obtain ⟨g5, P5, pc5, l5, hh5, hd5, st5⟩ := unhide HR5
      obtain ⟨t1, s1', G, ht1, hs1', hP5, sg1, e0, e1, e2, _⟩ := hh5.at (i := n1) (by omega)
      rw [hs1] at hs1'
      obtain rfl := Option.some.inj hs1'
      subst hP5
      have c15 := hh5.c1
      rw [hh5.n, hn1] at c15
      have HLA := hide (last_cons c15 hn16)
      obtain ⟨vs, hvs, hre⟩ := sg1.vs
      have hx5 : Bs v5 x xc rec := (unhide HX4).same9 (fun k hk => st5.block k (unhide HXT k hk).1 (unhide HXT k hk).2)
      have HX5 := hide hx5
      have hvl : vs.length = s1.recs.length := hre.n
      have hvm : vs.length ≤ 1000000 := by rw [hvl]; exact hrm
      have hG5 : G < v5.heap.size := World.block_lt_of_cell? v5 _ e0
      have HT1 : Hid (t1.f = s1.first ∧ t1.v.2.1 = s1.recs.length) := ⟨sg1.f, sg1.n⟩
      have HALL : Hid (LgS v5 g5 B D (some ⟨G, 0, none⟩) pc5 l5 S ∧ DK v5 g5 0 D M5 (N + 2) ∧ St v4 v5 g4 g5 X01 ∧ l5[n1]? = some t1 ∧ OwnS v5 0 t1.v.1 t1.v.2.2 vs ∧ Recs v5 g5 vs s1.recs) := ⟨hh5, hd5, st5, ht1, hvs, hre⟩
      have HGG : Hid (g5 G = .p 1 ∧ ∀ k, blk t1.v.1 = some k → g5 k = tgR s1.first) := ⟨hh5.gP G rfl, sg1.gr⟩
      clear hh5 hd5 st5 hvs hre sg1 ht1 hx5 HR5 c15
      go_wp2_with fail
      refine (unhide HLA).mono ?_
      rintro e v6 ⟨rfl, HB6⟩
      have HCL := hide (bclone_any x rec.length xc rec v6 ((unhide HX5).below (unhide HB6) (Nat.le_refl _)) rfl (by omega))
      clear HLA
      go_wp2_with fail
      refine (unhide HCL).mono ?_
      rintro e v7 ⟨a7, c7, r7, rfl, hr7, ho7, hb7⟩
      obtain rfl : r7 = rec := unhide hr7
      have HB7 : Hid (Below v5.heap.size v5 v7) := (unhide HB6).trans (hb7.mono (unhide HB6).size)
      have hz6 := (unhide HB6).size
      let g7 : Nat → Tg := fun b => if b < v5.heap.size then g5 b else .s 1
      have st7 : St v5 v7 g5 g7 (fun _ => False) := (St.ofBelow g5 _ (unhide HB7)).tag (fun k hk => if_pos hk)
      obtain ⟨hh5, hd5, st5, ht1, hvs, hre⟩ := unhide HALL
      have hh7 := hh5.keep st7 (fun _ _ e => e)
      have hd7 := hd5.keep1 (st7.mono (fun t e => e.elim))
      have hvs7 : OwnS v7 0 t1.v.1 t1.v.2.2 vs := hvs.same9 (fun k hk => st7.block k (hvs.lt k hk).2 (fun e => e))
      have hre7 := hre.st st7 (fun e => e)
      have ho7b := ho7.toBs
      have hot7 : ∀ k, blk a7 = some k → k < v7.heap.size ∧ g7 k = .s 1 := fun k hk => ⟨(ho7.lt k hk).2, if_neg (by have := (ho7.lt k hk).1; omega)⟩
      obtain ⟨cur, hcur⟩ : ∃ cur, v7.heap[G]? = some (.cells cur 122 (0, 0)) := by
        rcases hh7.ow.cases with ⟨e, _⟩ | ⟨b, cur, e, hg, _⟩
        · cases e
        · simp only [Option.some.injEq, Addr.mk.injEq, and_true] at e
          subst e
          exact ⟨cur, hg⟩
      have hne7 : blk t1.v.1 ≠ some G := fun e => by
        have := (unhide HGG).2 G e
        rw [(unhide HGG).1] at this
        cases this
      have q1 : v7.cell? ⟨G, n1 * 3 + 1, none⟩ = some (.slice t1.v.1 vs.length t1.v.2.2) := by rw [(unhide HB7).cell hG5, e1, hvl]
      have q2 : v7.cell? ⟨G, n1 * 3 + 2, none⟩ = some (.int .i64 (s1.size : Int)) := by rw [(unhide HB7).cell hG5, e2]
      have HPU := hide (put5 G (n1 * 3) s1.size fb.length r7.length t1.v.2.2 c7 t1.v.1 a7 vs cur 122 v7 hcur q1 q2 hvs7 hne7 hvm hzm)
      have HA7 : Hid (LgS v7 g7 B D (some ⟨G, 0, none⟩) pc5 l5 S ∧ DK v7 g7 0 D M5 (N + 2) ∧ St v5 v7 g5 g7 X01 ∧ l5[n1]? = some t1 ∧ OwnS v7 0 t1.v.1 t1.v.2.2 vs ∧ Recs v7 g7 vs s1.recs ∧ Bs v7 a7 c7 r7 ∧ ∀ k, blk a7 = some k → k < v7.heap.size ∧ g7 k = .s 1) := ⟨hh7, hd7, st7.mono (fun t e => e.elim), ht1, hvs7, hre7, ho7b, hot7⟩
      clear hh5 hd5 st5 ht1 hvs hre hh7 hd7 hvs7 hre7 ho7b hot7 hcur hne7 q1 q2 st7 ho7 hb7 hr7 HCL HB6 hz6 e0 e1 e2
      generalize g7 = g7' at HA7
      clear g7
      go_wp2_with fail
      refine (unhide HPU).mono ?_
      rintro e v8 ⟨rfl, HPR⟩
      have HF : Hid (RL w v8 g B D M5 (N + 2) SF) := by
        obtain ⟨R, cR, hpr⟩ := unhide HPR
        obtain ⟨h1, h2, h3, h4, h5, h6, h7, h8⟩ := unhide HA7
        obtain ⟨g8, l8, k1, k2⟩ := h1.put hn1 h4 hs1 h5 h6 (unhide HAP) h7 h8 hpr
        rw [unhide HSF]
        exact ⟨g8, _, _, l8, k1, h2.keep1 k2, (((unhide HST4).trans (unhide HALL).2.2.1).trans h3).trans (k2.mono (fun t ht => .inr ht))⟩
      clear HPU HPR HA7 HALL
      go_wp2_with fail
      go_ret2
      exact ⟨n, 0, rfl, unhide HAE, .inl ⟨rfl, rfl, by rw [unhide HMD, unhide HSE]; exact unhide HF⟩⟩

    · have he1' : (E1 != 0) = true := by rw [bne_iff_ne]; exact he1
      have HNE := hide he1
      clear he1
      go_wp2_with fail
      refine (unhide HWR).mono ?_
      rintro e v5 ⟨rfl, HRW⟩
      clear HWR
      go_wp2_with fail
      go_ret2
      have hM : M5 = M := by rw [unhide HM5]; exact write_bad (by rw [← unhide HE1]; exact unhide HNE)
      exact ⟨0, E1, rfl, (unhide HAE3).symm, .inr ⟨unhide HNE, rfl, M5, .inl hM, (RL.from (unhide HST4) (unhide HRW)).monoN (by omega)⟩⟩
  · have hfull : fullS S := fun s hs => by
      apply Classical.byContradiction
      intro hh
      exact hin ⟨s, hs, by omega⟩
    have hsy0 := unhide HSY hfull
    obtain ⟨M1, hM1⟩ : ∃ M1, syM M S = M1 := ⟨_, rfl⟩
    have HWR := hide (write_new w0 g4 B D P pc l S M M1 N n a3 c3 fb v4 (unhide HEE) hL4 hh4 hd4 (unhide HOK) (by omega) hnm ho4.toBs hft hfl hfull hsy0 hM1)
    obtain ⟨n1, hn1e⟩ : ∃ n1, n1 = S.length := ⟨_, rfl⟩
    obtain ⟨s1, hs1e⟩ : ∃ s1 : Sg, s1 = ⟨n, [], 0⟩ := ⟨_, rfl⟩
    obtain ⟨S1, hS1e⟩ : ∃ S1, S1 = S ++ [s1] := ⟨_, rfl⟩
    have hn1 : S1.length = n1 + 1 := by rw [hS1e, hn1e]; simp
    have hs1 : S1[n1]? = some s1 := by rw [hS1e, hn1e]; simp
    have hn16 : n1 ≤ 1000000 := by omega
    have hrm : s1.recs.length ≤ 1000000 := by rw [hs1e]; simp
    have hzm : s1.size + fb.length ≤ 9000000000000000000 := by rw [hs1e]; simp; omega
    have HAP : Hid (∀ i u, i < n1 → S1[i]? = some u → u.first ≠ s1.first) := fun i u hi hu => by
      rw [hS1e, List.getElem?_append_left (by omega)] at hu
      rw [hs1e]
      show u.first ≠ n
      rw [unhide HN0]
      exact Nat.ne_of_lt ((unhide HWF).under hfull hu)
    obtain ⟨SF, hSF⟩ : ∃ SF, SF = S1.take n1 ++ [s1.put rec fb.length] := ⟨_, rfl⟩
    have HSF := hide hSF
    have HSE : Hid (apS S rec = SF) := by
      show _ = _
      rw [hSF, hfbe, hS1e, hn1e, List.take_left, hs1e, unhide HN0]
      unfold apS
      split
      · rename_i s hs
        rw [if_neg (by have := hfull s hs; omega)]
      · rfl
    have HDD : Hid (apD M S = M1 ∧ apN S = n) := by
      refine ⟨?_, ?_⟩
      · unfold apD
        split
        · rename_i s hs
          rw [if_neg (by have := hfull s hs; omega)]
          exact hM1
        · rename_i hs
          rw [← hM1]
          unfold syM
          rw [hs]
      · rw [unhide HN0]
        unfold apN
        split
        · rename_i s hs
          rw [if_neg (by have := hfull s hs; omega)]
        · rfl
    obtain ⟨M5, hM5⟩ : ∃ M5, M5 = M1.write (nmS n) fb := ⟨_, rfl⟩
    have HMD : Hid ((apD M S).write (nmS (apN S)) (frmN n rec) = M5) := by show _ = _; rw [(unhide HDD).1, (unhide HDD).2, hM5, hfbe]
    obtain ⟨E1, hE1⟩ : ∃ E1, E1 = M1.writeE (nmS n) fb.length := ⟨_, rfl⟩
    have HAE3 : Hid (apE M S rec = E1) := by show _ = _; rw [unhide HAE2, (unhide HDD).1, (unhide HDD).2, hE1, hfbe]
    have HM5 := hide hM5
    have HE1 := hide hE1
    rw [← hE1, ← hM5, ← hs1e, ← hS1e] at HWR
    have HWR2 : Hid (Calls Tryz.prog 64 #[.pointer (some ⟨B, 0, none⟩), .int .i64 (n : Int), .slice a3 fb.length c3] v4 fun e w' => e = .returned (.int .i64 E1) ∧ Hid (E1 ≠ 0 → RL v4 w' g4 B D M5 (N + 2) S) ∧ Hid (E1 = 0 → RL v4 w' g4 B D M5 (N + 2) S1)) := (unhide HWR).mono fun e w' h => ⟨h.1, h.2.1, h.2.2⟩
    clear hfe hbig HAE1 HAE2 st4 hh4 hd4 hL4 hft hfull hsy0 hSF hE1 hM5 hfl7 ho4 hb4 hfbe HWF HWR hM1 hin hs1e hS1e hn1e HSY
    generalize g4 = g4' at *
    clear g4
    obtain ⟨g4, hg4⟩ : ∃ g4, g4 = g4' := ⟨_, rfl⟩
    rw [← hg4] at HST4 HXT HWR2
    clear hg4 g4'
    by_cases he1 : E1 = 0
    · subst he1
      have HAE : Hid ((0 : Int) = apE M S rec) := (unhide HAE3).symm
      clear HAE3
      go_wp2_with fail
      refine (unhide HWR2).mono ?_
      rintro e v5 ⟨rfl, _, HRW⟩
      have HR5 : Hid (RL v4 v5 g4 B D M5 (N + 2) S1) := unhide HRW (by trivial)
      clear HWR2 HRW
      obtain ⟨g5, P5, pc5, l5, hh5, hd5, st5⟩ := unhide HR5
      obtain ⟨t1, s1', G, ht1, hs1', hP5, sg1, e0, e1, e2, _⟩ := hh5.at (i := n1) (by omega)
      rw [hs1] at hs1'
      obtain rfl := Option.some.inj hs1'
      subst hP5
      have c15 := hh5.c1
      rw [hh5.n, hn1] at c15
      have HLA := hide (last_cons c15 hn16)
      obtain ⟨vs, hvs, hre⟩ := sg1.vs
      have hx5 : Bs v5 x xc rec := (unhide HX4).same9 (fun k hk => st5.block k (unhide HXT k hk).1 (unhide HXT k hk).2)
      have HX5 := hide hx5
      have hvl : vs.length = s1.recs.length := hre.n
      have hvm : vs.length ≤ 1000000 := by rw [hvl]; exact hrm
      have hG5 : G < v5.heap.size := World.block_lt_of_cell? v5 _ e0
      have HT1 : Hid (t1.f = s1.first ∧ t1.v.2.1 = s1.recs.length) := ⟨sg1.f, sg1.n⟩
      have HALL : Hid (LgS v5 g5 B D (some ⟨G, 0, none⟩) pc5 l5 S1 ∧ DK v5 g5 0 D M5 (N + 2) ∧ St v4 v5 g4 g5 X01 ∧ l5[n1]? = some t1 ∧ OwnS v5 0 t1.v.1 t1.v.2.2 vs ∧ Recs v5 g5 vs s1.recs) := ⟨hh5, hd5, st5, ht1, hvs, hre⟩
      have HGG : Hid (g5 G = .p 1 ∧ ∀ k, blk t1.v.1 = some k → g5 k = tgR s1.first) := ⟨hh5.gP G rfl, sg1.gr⟩
      clear hh5 hd5 st5 hvs hre sg1 ht1 hx5 HR5 c15
      go_wp2_with fail
      refine (unhide HLA).mono ?_
      rintro e v6 ⟨rfl, HB6⟩
      have HCL := hide (bclone_any x rec.length xc rec v6 ((unhide HX5).below (unhide HB6) (Nat.le_refl _)) rfl (by omega))
      clear HLA
      go_wp2_with fail
      refine (unhide HCL).mono ?_
      rintro e v7 ⟨a7, c7, r7, rfl, hr7, ho7, hb7⟩
      obtain rfl : r7 = rec := unhide hr7
      have HB7 : Hid (Below v5.heap.size v5 v7) := (unhide HB6).trans (hb7.mono (unhide HB6).size)
      have hz6 := (unhide HB6).size
      let g7 : Nat → Tg := fun b => if b < v5.heap.size then g5 b else .s 1
      have st7 : St v5 v7 g5 g7 (fun _ => False) := (St.ofBelow g5 _ (unhide HB7)).tag (fun k hk => if_pos hk)
      obtain ⟨hh5, hd5, st5, ht1, hvs, hre⟩ := unhide HALL
      have hh7 := hh5.keep st7 (fun _ _ e => e)
      have hd7 := hd5.keep1 (st7.mono (fun t e => e.elim))
      have hvs7 : OwnS v7 0 t1.v.1 t1.v.2.2 vs := hvs.same9 (fun k hk => st7.block k (hvs.lt k hk).2 (fun e => e))
      have hre7 := hre.st st7 (fun e => e)
      have ho7b := ho7.toBs
      have hot7 : ∀ k, blk a7 = some k → k < v7.heap.size ∧ g7 k = .s 1 := fun k hk => ⟨(ho7.lt k hk).2, if_neg (by have := (ho7.lt k hk).1; omega)⟩
      obtain ⟨cur, hcur⟩ : ∃ cur, v7.heap[G]? = some (.cells cur 122 (0, 0)) := by
        rcases hh7.ow.cases with ⟨e, _⟩ | ⟨b, cur, e, hg, _⟩
        · cases e
        · simp only [Option.some.injEq, Addr.mk.injEq, and_true] at e
          subst e
          exact ⟨cur, hg⟩
      have hne7 : blk t1.v.1 ≠ some G := fun e => by
        have := (unhide HGG).2 G e
        rw [(unhide HGG).1] at this
        cases this
      have q1 : v7.cell? ⟨G, n1 * 3 + 1, none⟩ = some (.slice t1.v.1 vs.length t1.v.2.2) := by rw [(unhide HB7).cell hG5, e1, hvl]
      have q2 : v7.cell? ⟨G, n1 * 3 + 2, none⟩ = some (.int .i64 (s1.size : Int)) := by rw [(unhide HB7).cell hG5, e2]
      have HPU := hide (put5 G (n1 * 3) s1.size fb.length r7.length t1.v.2.2 c7 t1.v.1 a7 vs cur 122 v7 hcur q1 q2 hvs7 hne7 hvm hzm)
      have HA7 : Hid (LgS v7 g7 B D (some ⟨G, 0, none⟩) pc5 l5 S1 ∧ DK v7 g7 0 D M5 (N + 2) ∧ St v5 v7 g5 g7 X01 ∧ l5[n1]? = some t1 ∧ OwnS v7 0 t1.v.1 t1.v.2.2 vs ∧ Recs v7 g7 vs s1.recs ∧ Bs v7 a7 c7 r7 ∧ ∀ k, blk a7 = some k → k < v7.heap.size ∧ g7 k = .s 1) := ⟨hh7, hd7, st7.mono (fun t e => e.elim), ht1, hvs7, hre7, ho7b, hot7⟩
      clear hh5 hd5 st5 ht1 hvs hre hh7 hd7 hvs7 hre7 ho7b hot7 hcur hne7 q1 q2 st7 ho7 hb7 hr7 HCL HB6 hz6 e0 e1 e2
      generalize g7 = g7' at HA7
      clear g7
      go_wp2_with fail
      refine (unhide HPU).mono ?_
      rintro e v8 ⟨rfl, HPR⟩
      have HF : Hid (RL w v8 g B D M5 (N + 2) SF) := by
        obtain ⟨R, cR, hpr⟩ := unhide HPR
        obtain ⟨h1, h2, h3, h4, h5, h6, h7, h8⟩ := unhide HA7
        obtain ⟨g8, l8, k1, k2⟩ := h1.put hn1 h4 hs1 h5 h6 (unhide HAP) h7 h8 hpr
        rw [unhide HSF]
        exact ⟨g8, _, _, l8, k1, h2.keep1 k2, (((unhide HST4).trans (unhide HALL).2.2.1).trans h3).trans (k2.mono (fun t ht => .inr ht))⟩
      clear HPU HPR HA7 HALL
      go_wp2_with fail
      go_ret2
      exact ⟨n, 0, rfl, unhide HAE, .inl ⟨rfl, rfl, by rw [unhide HMD, unhide HSE]; exact unhide HF⟩⟩
    · have he1' : (E1 != 0) = true := by rw [bne_iff_ne]; exact he1
      have HNE := hide he1
      clear he1
      go_wp2_with fail
      refine (unhide HWR2).mono ?_
      rintro e v5 ⟨rfl, HRW, _⟩
      clear HWR2
      go_wp2_with fail
      go_ret2
      have hM : M5 = M1 := by rw [unhide HM5]; exact write_bad (by rw [← unhide HE1]; exact unhide HNE)
      exact ⟨0, E1, rfl, (unhide HAE3).symm, .inr ⟨unhide HNE, rfl, M5, .inr (hM.trans (unhide HDD).1.symm), RL.from (unhide HST4) (unhide HRW (unhide HNE))⟩⟩
#print axioms append5
end Go.Proofs.YtmcgghjeocnpnaaGreatDoor
end
section
set_option linter.unusedVariables false
set_option maxRecDepth 1000000
namespace Go.Proofs.YtmcgghjeocnpnaaGreatDoor
open Go.RowKit

theorem Tryz.elemG : Tryz.prog.underlying 118 = some (.slice (Tryz.prog.elem 118)) := by kernel_rfl
theorem Tryz.sizeG (w : World) : (sizeOf (Tryz.prog.elem 118)).run Tryz.prog w = .ok 3 w := by kernel_rfl
theorem gb_trans {a b c : World} {row : Option Nat} (h : a.grownBy b row) (k : b.grownBy c row) : a.grownBy c row :=
  ⟨k.os.trans h.os, k.tape.trans h.tape, k.output.trans h.output, Nat.le_trans h.size k.size, fun i hi hn => (k.block i (Nat.lt_of_lt_of_le hi h.size) hn).trans (h.block i hi hn)⟩
theorem setCells_row (b : Nat) (T : TypeId) : ∀ (vs : List Value) (o : Nat) (w : World) (cur : Array Value), w.heap[b]? = some (.cells cur T (0, 0)) → ∃ cur', (w.setCells b o vs).heap[b]? = some (.cells cur' T (0, 0)) ∧ cur'.size = cur.size
  | [], _, w, cur, h => ⟨cur, h, rfl⟩
  | v :: r, o, w, cur, h => by
    obtain ⟨cur', h1, h2⟩ := setCells_row b T r (o + 1) (w.setCell ⟨b, o, none⟩ v) _ (heap_setCell_same w b o cur T v h)
    exact ⟨cur', h1, by rw [h2]; simp⟩
theorem cutG_head (g off N cap i : Nat) (z : Int) (w : World) (hz : z = (i : Int)) (h : i ≤ cap) : (Instr.slice 118 (.slice (some ⟨g, off, none⟩) N cap) none (some (.int .i64 z)) none).run Tryz.prog w = .ok (.slice (some ⟨g, off, none⟩) i cap) w := by
  subst hz
  rw [run_slice_h (P := Tryz.prog) w 118 _ N cap Tryz.elemG .i64 (i : Int) (by omega) (by omega), Tryz.sizeG]
  simp only [Result.andThen, sliced, Int.toNat_natCast, Nat.sub_zero]
  by_cases hc : cap = 0
  · simp [hc]
  · simp [hc, addr_add]
/-- A row of segments off its cells. -/
theorem OwnG.ofCells {w : World} {g cap : Nat} {l : List Gt} {cur : Array Value} (hrow : w.heap[g]? = some (.cells cur 122 (0, 0))) (hs : cur.size = cap * 3) (hle : l.length ≤ cap) (hm : cap ≤ maxLen) (hc : ∀ j u, (gcs l)[j]? = some u → w.cell? ⟨g, j, none⟩ = some u) : OwnG w (some ⟨g, 0, none⟩) cap l := by
  refine ⟨gcs_length l, .inr ⟨g, cap, cur, rfl, Nat.zero_le _, hrow, hle, hm, hs, ?_⟩⟩
  apply List.ext_getElem?
  intro p
  by_cases hp : p < l.length * 3
  · obtain ⟨u, hu⟩ : ∃ u, (gcs l)[p]? = some u := ⟨_, List.getElem?_eq_getElem (by rw [gcs_length]; exact hp)⟩
    rw [List.getElem?_take, if_pos hp, hu, ← hc p u hu, cell_of_row w g p cur _ (0, 0) hrow]
    simp
  · rw [List.getElem?_take, if_neg hp, List.getElem?_eq_none (by rw [gcs_length]; omega)]
theorem Tryz.zeroG (w : World) : (zeroValue 122).run Tryz.prog w = .ok (.agg #[.int .i64 0, .slice none 0 0, .int .i64 0]) w := by kernel_rfl
theorem clearG_one (w : World) (ty : TypeId) (b o c : Nat) (hc : ∀ j, j < 3 → (w.cell? ⟨b, o + j, none⟩).isSome = true) (hf : ∀ j, j < 3 → w.frozen? ⟨b, o + j, none⟩ = false) :
    (Builtin.clear_ #[118] ty #[.slice (some ⟨b, o, none⟩) 1 c]).run Tryz.prog w = .ok (.tuple #[]) (w.setCells b o [.int .i64 0, .slice none 0 0, .int .i64 0]) := by
  have hzc : (Builtin.zeroCells (Value.agg #[.int .i64 0, .slice none 0 0, .int .i64 0]).cells 1).toList = [.int .i64 0, .slice none 0 0, .int .i64 0] := by kernel_rfl
  have hst := run_storeCells_cells (P := Tryz.prog) b o [.int .i64 0, .slice none 0 0, .int .i64 0] 0 w (by simpa using hc) (by simpa using hf) (by intro v hv'; simp at hv'; rcases hv' with rfl | rfl | rfl <;> rfl)
  simp only [Nat.add_zero] at hst
  simp [Builtin.clear_, run_underlying Tryz.underlying118, hzc, hst]
theorem setCells_grown (b : Nat) : ∀ (vs : List Value) (o : Nat) (w : World), w.grownBy (w.setCells b o vs) (some b)
  | [], _, w => ⟨rfl, rfl, rfl, Nat.le_refl _, fun _ _ _ => rfl⟩
  | v :: r, o, w => by
    rw [World.setCells]
    exact gb_trans (grownBy_setCell w ⟨b, o, none⟩ v) (setCells_grown b r (o + 1) _)
theorem cutG_tail (g N cap E : Nat) (h1 : E ≤ N) : ∃ A : Addr, (∀ w, (Instr.slice 118 (.slice (some ⟨g, 0, none⟩) N cap) (some (.int .i64 (E : Int))) none none).run Tryz.prog w = .ok (.slice (some A) (N - E) (cap - E)) w) ∧ (¬ cap = E → A = ⟨g, E * 3, none⟩) := by
  refine ⟨if cap = E then ⟨g, 0, none⟩ else ⟨g, E * 3, none⟩, fun w => ?_, fun h => if_neg h⟩
  rw [run_slice_l (P := Tryz.prog) w 118 _ N cap Tryz.elemG .i64 (E : Int) (by omega) (by omega), Tryz.sizeG]
  simp only [Result.andThen, sliced, Int.toNat_natCast]
  by_cases h : cap = E
  · simp [h]
  · simp [h, addr_add]
theorem cutG_mid (g N cap E H : Nat) (h1 : E ≤ H) (h2 : H ≤ cap) (h3 : ¬ cap = E) (w : World) : (Instr.slice 118 (.slice (some ⟨g, 0, none⟩) N cap) (some (.int .i64 (E : Int))) (some (.int .i64 (H : Int))) none).run Tryz.prog w = .ok (.slice (some ⟨g, E * 3, none⟩) (H - E) (cap - E)) w := by
  rw [run_slice_lh (P := Tryz.prog) w 118 _ N cap Tryz.elemG .i64 .i64 (E : Int) (H : Int) (by omega) (by omega) (by omega), Tryz.sizeG]
  simp only [Result.andThen, sliced, Int.toNat_natCast, if_neg h3, Option.map_some, addr_add, Nat.zero_add]

set_option maxHeartbeats 8000000 in
theorem deleteG_any (g cap : Nat) (l : List Gt) (i : Nat) (w : World) (h : OwnG w (some ⟨g, 0, none⟩) cap l) (hi : i < l.length) (hl : l.length ≤ 1000000) :
    Calls Tryz.prog 98 #[.slice (some ⟨g, 0, none⟩) l.length cap, .int .i64 (i : Int), .int .i64 ((i : Int) + 1)] w fun e w' => e = .returned (.slice (some ⟨g, 0, none⟩) (l.length - 1) cap) ∧ Hid (w.grownBy w' (some g)) ∧ Hid (∀ j u, (gcs (l.eraseIdx i))[j]? = some u → w'.cell? ⟨g, j, none⟩ = some u) ∧ Hid (∃ cur', w'.heap[g]? = some (.cells cur' 122 (0, 0)) ∧ cur'.size = cap * 3) := by
  rcases h.cases with ⟨h1, _⟩ | ⟨g', cur, e, hg, hle, hm, hs, ht⟩
  · cases h1
  obtain rfl : g = g' := by simpa using e
  unfold maxLen at hm
  obtain ⟨N, hN⟩ : ∃ N, l.length = N + 1 := ⟨l.length - 1, by omega⟩
  have hcell : ∀ j, j < l.length * 3 → w.cell? ⟨g, j, none⟩ = (gcs l)[j]? := by
    intro j hj
    rw [cell_of_row w g j cur _ (0, 0) hg, ← ht, List.getElem?_take, if_pos hj]
    simp
  have hfz : ∀ j, w.frozen? ⟨g, j, none⟩ = false := fun j => frozen_of_row w g j _ _ hg
  have hsl : (gcs l).length = l.length * 3 := gcs_length l
  obtain ⟨news, hnews⟩ : ∃ news, news = gcs (l.drop (i + 1)) := ⟨_, rfl⟩
  have hnl : news.length = (N - i) * 3 := by rw [hnews, gcs_length, List.length_drop]; omega
  have hng : ∀ j, j < news.length → news[j]? = (gcs l)[(i + 1) * 3 + j]? := by
    intro j hj
    have e : gcs l = gcs (l.take (i + 1)) ++ news := by rw [hnews, ← gcs_append, List.take_append_drop]
    rw [e, List.getElem?_append_right (by rw [gcs_length, List.length_take]; omega)]
    congr 1
    rw [gcs_length, List.length_take]
    omega
  obtain ⟨A, hA, hA2⟩ := cutG_tail g (N + 1) cap (i + 1) (by omega)
  have HSRC : Hid (∀ j u, news[j]? = some u → w.drew.cell? (A.add j) = some u) := by
    intro j u hu
    have hj := (List.getElem?_eq_some_iff.1 hu).1
    rw [hA2 (by omega), addr_add]
    show w.cell? _ = _
    rw [hcell _ (by omega), ← hng j hj]
    exact hu
  have HONE : Hid (∀ u ∈ news, u.oneCell' = true) := by rw [hnews]; exact gcs_one _
  have HSP : Hid (∀ j, j < news.length → (w.drew.cell? ⟨g, 0 + i * 3 + j, none⟩).isSome = true ∧ w.drew.frozen? ⟨g, 0 + i * 3 + j, none⟩ = false) := by
    intro j hj
    refine ⟨?_, hfz _⟩
    show (w.cell? _).isSome = true
    rw [hcell _ (by omega), List.getElem?_eq_getElem (by omega)]
    rfl
  obtain ⟨W1, hW1⟩ : ∃ W1, w.drew.setCells g (0 + i * 3) news = W1 := ⟨_, rfl⟩
  have hW1in : ∀ j, j < news.length → W1.cell? ⟨g, 0 + i * 3 + j, none⟩ = news[j]? := by
    intro j hj
    rw [← hW1, World.cell?_setCells_in g news (0 + i * 3) w.drew (fun q hq => (HSP.out q hq).1) j hj, List.getElem?_eq_getElem hj]
  have hW1out : ∀ j, (j < i * 3 ∨ i * 3 + news.length ≤ j) → W1.cell? ⟨g, j, none⟩ = w.cell? ⟨g, j, none⟩ := by
    intro j hj
    rw [← hW1, World.cell?_setCells_out g news (0 + i * 3) w.drew _ (fun _ _ => by simp only; omega)]
    rfl
  have hW1f : ∀ j, W1.frozen? ⟨g, j, none⟩ = false := by
    intro j
    rw [← hW1, World.frozen?_setCells]
    exact hfz j
  have HG1 : Hid (w.grownBy W1 (some g)) := by
    rw [← hW1]
    exact gb_trans (b := w.drew) ⟨rfl, rfl, rfl, Nat.le_refl _, fun _ _ _ => rfl⟩ (setCells_grown g news _ _)
  have hcl : ∀ ty, (Builtin.clear_ #[118] ty #[.slice (some ⟨g, N * 3, none⟩) 1 (cap - N)]).run Tryz.prog W1 = .ok (.tuple #[]) (W1.setCells g (N * 3) [.int .i64 0, .slice none 0 0, .int .i64 0]) := fun ty => clearG_one W1 ty g (N * 3) (cap - N) (fun j hj => by
    rw [hW1out _ (.inr (by omega)), hcell _ (by omega), List.getElem?_eq_getElem (by omega)]
    rfl) (fun j hj => hW1f _)
  have HFIN : Hid (∀ j u, (gcs (l.eraseIdx i))[j]? = some u → (W1.setCells g (N * 3) [.int .i64 0, .slice none 0 0, .int .i64 0]).cell? ⟨g, j, none⟩ = some u) := by
    intro j u hu
    have hj : j < N * 3 := by
      have := (List.getElem?_eq_some_iff.1 hu).1
      rw [gcs_length, List.length_eraseIdx_of_lt hi] at this
      omega
    rw [World.cell?_setCells_out g _ (N * 3) W1 _ (fun _ _ => .inl hj)]
    rw [List.eraseIdx_eq_take_drop_succ, gcs_append, ← hnews] at hu
    have htl : (gcs (l.take i)).length = i * 3 := by rw [gcs_length, List.length_take]; omega
    rcases Nat.lt_or_ge j (i * 3) with h | h
    · rw [hW1out j (.inl h), hcell j (by omega)]
      rw [List.getElem?_append_left (by omega)] at hu
      have e : gcs l = gcs (l.take i) ++ gcs (l.drop i) := by rw [← gcs_append, List.take_append_drop]
      rw [e, List.getElem?_append_left (by omega)]
      exact hu
    · rw [List.getElem?_append_right (by omega), htl] at hu
      have := hW1in (j - i * 3) (by omega)
      rw [show 0 + i * 3 + (j - i * 3) = j by omega] at this
      rw [this]
      exact hu
  have HG2 : Hid (w.grownBy (W1.setCells g (N * 3) [.int .i64 0, .slice none 0 0, .int .i64 0]) (some g)) := gb_trans HG1.out (setCells_grown g _ _ _)
  have HROW : Hid (∃ cur', (W1.setCells g (N * 3) [.int .i64 0, .slice none 0 0, .int .i64 0]).heap[g]? = some (.cells cur' 122 (0, 0)) ∧ cur'.size = cap * 3) := by
    obtain ⟨c1, h1, h2⟩ := setCells_row g 122 news (0 + i * 3) w.drew cur hg
    rw [hW1] at h1
    obtain ⟨c2, h3, h4⟩ := setCells_row g 122 [.int .i64 0, .slice none 0 0, .int .i64 0] (N * 3) W1 c1 h1
    exact ⟨c2, h3, by rw [h4, h2, hs]⟩
  have HW := hide hW1
  have HNL := hide hnl
  have q0 := fun wx => cutG_head g 0 (N + 1) cap i (i : Int) wx rfl (by omega)
  have q1 : ∀ wx, (Instr.slice 118 (.slice (some ⟨g, 0, none⟩) (N + 1) cap) (some (.int .i64 ((i : Int) + 1))) none none).run Tryz.prog wx = .ok (.slice (some A) (N - i) (cap - (i + 1))) wx := by
    intro wx
    have := hA wx
    rw [show ((i + 1 : Nat) : Int) = (i : Int) + 1 by simp, show N + 1 - (i + 1) = N - i by omega] at this
    exact this
  have q2 : ∀ wx, (Instr.slice 118 (.slice (some ⟨g, 0, none⟩) N cap) (some (.int .i64 (N : Int))) (some (.int .i64 ((N : Int) + 1))) none).run Tryz.prog wx = .ok (.slice (some ⟨g, N * 3, none⟩) 1 (cap - N)) wx := by
    intro wx
    have := cutG_mid g N cap N (N + 1) (by omega) (by omega) (by omega) wx
    rw [show ((N + 1 : Nat) : Int) = (N : Int) + 1 by simp, show N + 1 - N = 1 by omega] at this
    exact this
  rw [hN] at hle ⊢
  have hNc : N + 1 ≤ cap := hle
  clear hcell hfz hsl hnews hng hA hA2 hW1in hW1out hW1f hW1 HG1 h e hg hs ht hnl
  have hne : ((i : Int) == (i : Int) + 1) = false := by simp; omega
  have hiN : i ≤ N := by omega
  have r1 : (i : Int) + 1 ≤ ((N + 1 : Nat) : Int) := by omega
  have r2 : ((N + 1 : Nat) : Int) ≤ (cap : Int) := by omega
  have r3 : (i : Int) + 1 ≤ (N : Int) + 1 := by omega
  have r4 : (N : Int) + 1 ≤ (cap : Int) := by omega
  obtain ⟨i0, hi0, hz0, hz1, hz2⟩ := info_parts Tryz.infoG
  have HI0 := hide (And.intro hi0 hz1)
  clear hi0 hz0 hz1 hz2 hi hl hN
  go_enter Tryz.func98, Tryz.ntmps98
  go_wp2
  go_region_law (refine step_append_room rfl _ _ _ rfl 122 i0 3 Tryz.underlying118 HI0.out.1 HI0.out.2 g 0 i cap rfl A (N - i) (cap - (i + 1)) news rfl HNL.out HSRC.out HONE.out (by omega) HSP.out ?_; rw [HW.out])
  all_goals
    go_wp2
    go_ret
    exact ⟨by simp, HG2, HFIN, HROW⟩
#print axioms deleteG_any
end Go.Proofs.YtmcgghjeocnpnaaGreatDoor
end
section
set_option linter.unusedVariables false
set_option maxRecDepth 1000000
namespace Go.Proofs.YtmcgghjeocnpnaaGreatDoor
open Go.RowKit Go.Maps

/-- A log without its first segment. -/
theorem LgS.tl {w w' : World} {g : Nat → Tg} {B D G pc : Nat} {l : List Gt} {S : List Sg} (h : LgS w g B D (some ⟨G, 0, none⟩) pc l S) (hg : w.grownBy w' (some G)) (ho : OwnG w' (some ⟨G, 0, none⟩) pc (l.drop 1)) :
    LgS (w'.setCell ⟨B, 1, none⟩ (.slice (some ⟨G, 0, none⟩) (l.length - 1) pc)) g B D (some ⟨G, 0, none⟩) pc (l.drop 1) (S.drop 1) ∧ St w (w'.setCell ⟨B, 1, none⟩ (.slice (some ⟨G, 0, none⟩) (l.length - 1) pc)) g g (fun t => t.of 1) := by
  have hGt : g G = .p 1 := h.gP G rfl
  have hGB : G ≠ B := fun e => by have := h.gB; rw [← e, hGt] at this; cases this
  have hk : ∀ j, j ≠ B → (w'.setCell ⟨B, 1, none⟩ (.slice (some ⟨G, 0, none⟩) (l.length - 1) pc)).heap[j]? = w'.heap[j]? := fun j hj => Below.heap_setCell _ ⟨B, 1, none⟩ _ j hj
  have hw' : ∀ j, j < w.heap.size → j ≠ G → w'.heap[j]? = w.heap[j]? := fun j hj hn => hg.block j hj (fun e => hn (Option.some.inj e))
  have hst : St w (w'.setCell ⟨B, 1, none⟩ (.slice (some ⟨G, 0, none⟩) (l.length - 1) pc)) g g (fun t => t.of 1) := ⟨hg.os, hg.tape, hg.output, by simpa [World.setCell] using hg.size, fun j hj hn => (hk j (fun e => hn (by rw [e, h.gB]; rfl))).trans (hw' j hj (fun e => hn (by rw [e, hGt]; rfl))), fun j hj => rfl⟩
  have hsame : ∀ j, j < w.heap.size → g j ≠ .p 1 → g j ≠ .d 1 → (w'.setCell ⟨B, 1, none⟩ (.slice (some ⟨G, 0, none⟩) (l.length - 1) pc)).heap[j]? = w.heap[j]? := fun j hj h1 h2 => (hk j (fun e => h2 (by rw [e]; exact h.gB))).trans (hw' j hj (fun e => h1 (by rw [e]; exact hGt)))
  refine ⟨⟨?_, h.gB, h.gP, ho.same (fun j hj => hk j (by simp [blk] at hj; omega)), by simp [h.n], fun i t s ht hs => ?_⟩, hst⟩
  · rw [heap_setCell_same _ _ _ _ _ _ ((hw' B h.lt (Ne.symm hGB)).trans h.st), List.length_drop]; rfl
  · rw [List.getElem?_drop] at ht hs
    have sg := h.sg (1 + i) t s ht hs
    obtain ⟨vs, a1, a2⟩ := sg.vs
    refine ⟨sg.f, sg.z, sg.n, ⟨vs, a1.same9 (fun j hj => hsame j (a1.lt j hj).2 (by rw [sg.gr j hj]; intro e; cases e) (by rw [sg.gr j hj]; intro e; cases e)), ⟨a2.n, fun j y q h1 h2 => ?_⟩⟩, sg.gr⟩
    obtain ⟨b1, b2, b3⟩ := a2.at' j y q h1 h2
    exact ⟨b1, b2.same9 (fun k hk2 => hsame k (b3 k hk2).1 (by rw [(b3 k hk2).2]; intro e; cases e) (by rw [(b3 k hk2).2]; intro e; cases e)), fun k hk2 => ⟨Nat.lt_of_lt_of_le (b3 k hk2).1 hst.size, (b3 k hk2).2⟩⟩
theorem delete0 (G cap : Nat) (l : List Gt) (w : World) (h : OwnG w (some ⟨G, 0, none⟩) cap l) (hi : 0 < l.length) (hl : l.length ≤ 1000000) :
    Calls Tryz.prog 98 #[.slice (some ⟨G, 0, none⟩) l.length cap, .int .i64 0, .int .i64 1] w fun e w' => e = .returned (.slice (some ⟨G, 0, none⟩) (l.length - 1) cap) ∧ Hid (w.grownBy w' (some G)) ∧ Hid (OwnG w' (some ⟨G, 0, none⟩) cap (l.drop 1)) := by
  refine (deleteG_any G cap l 0 w h hi hl).mono ?_
  rintro e w' ⟨rfl, h1, h2, h3⟩
  refine ⟨rfl, h1, ?_⟩
  obtain ⟨cur, h4, h5⟩ := unhide h3
  have e : l.eraseIdx 0 = l.drop 1 := by cases l <;> rfl
  rw [e] at h2
  exact OwnG.ofCells h4 h5 (by have := h.le.1; simp; omega) h.le.2 (unhide h2)
set_option maxHeartbeats 4000000 in
theorem dropF5 (w0 : World) (g : Nat → Tg) (B D : Nat) (P : Option Addr) (pc : Nat) (l : List Gt) (S : List Sg) (s : Sg) (M : Md) (N : Nat) (w : World) (hE : EnvS w0) (hL : LW w0 w g) (h : LgS w g B D P pc l S) (hd : DK w g 0 D M N) (hlen : S.length ≤ 1000000) (hN : N ≤ 1400) (hs : S[0]? = some s) (hf : s.first ≤ 9223372036854775807) (hth : M.thereE (nmS s.first) = 0) :
    Calls Tryz.prog 67 #[.pointer (some ⟨B, 0, none⟩)] w fun e w' => e = .returned (.int .i64 0) ∧ Hid (RL w w' g B D (M.drop (nmS s.first)) (N + 1) (S.drop 1)) := by
  have c0 := h.c0
  have c1 := h.c1
  have hSp : 0 < S.length := (List.getElem?_eq_some_iff.1 hs).1
  obtain ⟨t, s2, G, _, hs2, rfl, _, d0, _, _, _⟩ := h.at hSp
  rw [hs] at hs2
  obtain rfl := Option.some.inj hs2
  have d0' : w.cell? ⟨G, 0, none⟩ = some (.int .i64 (s.first : Int)) := by simpa using d0
  obtain ⟨m, hm⟩ : ∃ m, m = l.length := ⟨_, rfl⟩
  rw [← hm] at c1
  have hmp : 0 < m := by rw [hm, h.n]; exact hSp
  have hmp' : (0 : Int) < (m : Int) := by omega
  have hm6 : l.length ≤ 1000000 := by rw [h.n]; exact hlen
  have HBL : Hid (B < w.heap.size) := h.lt
  have HGL : Hid (G < w.heap.size) := World.block_lt_of_cell? w _ d0
  have HTG : Hid ((g B).of 1 ∧ (g G).of 1) := ⟨by rw [h.gB]; rfl, by rw [h.gP G rfl]; rfl⟩
  have HH := hide h
  have HM := hide hm
  have HNO : Hid (∀ v, Below w.heap.size w v → Calls Tryz.prog 88 #[.int .i64 (s.first : Int)] v fun e v' => e = .returned (.string (str (nmS s.first))) ∧ Hid (Below v.heap.size v v')) := fun v hb => nameOf_any s.first v hf (hE.below (hL.below.trans (hb.mono hL.below.size)) (Nat.le_refl _))
  have HDR : Hid (∀ v, Below w.heap.size w v → Calls Tryz.prog 97 #[.pointer (some ⟨D, 0, none⟩), .string (str (nmS s.first))] v fun e v' => e = .returned (.int .i64 0) ∧ Hid (RK v v' g 0 D (M.drop (nmS s.first)) (N + 1))) := fun v hb => by
    have := drop_k g 0 D M N (nmS s.first) v (hd.below hb) hN (nm_max _ hf)
    rw [hth] at this
    exact this
  clear h hd hs hSp hE hL hth d0 hm
  have d0 := d0'
  clear d0'
  go_enter Tryz.func67, Tryz.ntmps67
  go_upto_region 1 with fail
  refine wp_region_held_drew (S := fun w' => w'.cell? ⟨B, 0, none⟩ = some (.pointer (some ⟨D, 0, none⟩)) ∧ w'.cell? ⟨B, 1, none⟩ = some (.slice (some ⟨G, 0, none⟩) m pc) ∧ w'.cell? ⟨G, 0, none⟩ = some (.int .i64 (s.first : Int))) (by kernel_rfl) (And.intro c0 (And.intro c1 d0)) (fun hHeld => ?_)
  refine wpAnyH_take (i := 0) (oi := ?_) (v := ?_) ?_ (by kernel_rfl) ?_ ?_ ?_ ?_ hHeld ?_
  rotate_left 2
  · (simp only [List.getElem?_toArray, List.getElem?_cons_zero]) <;> with_reducible rfl
  · kernel_rfl
  · kernel_rfl
  · exact fun _ _ _ h => h
  · exact Or.inl ⟨by rfl, by (intro w hSw; (try dsimp only at hSw); go_simp <;> with_reducible rfl)⟩
  simp only [Act.put, List.setIfInBounds_toArray, List.set_cons_zero, List.set_cons_succ]
  refine wpAnyH_take (i := 1) (oi := ?_) (v := ?_) ?_ (by kernel_rfl) ?_ ?_ ?_ ?_ hHeld ?_
  rotate_left 2
  · (simp only [List.getElem?_toArray, List.getElem?_cons_succ, List.getElem?_cons_zero]) <;> with_reducible rfl
  · kernel_rfl
  · kernel_rfl
  · exact fun _ _ _ h => h
  · exact Or.inl ⟨by rfl, by (intro w hSw; (try dsimp only at hSw); go_simp <;> with_reducible rfl)⟩
  simp only [Act.put, List.setIfInBounds_toArray, List.set_cons_zero, List.set_cons_succ]
  refine wpAnyH_take (i := 2) (oi := ?_) (v := ?_) ?_ (by kernel_rfl) ?_ ?_ ?_ ?_ hHeld ?_
  rotate_left 2
  · (simp only [List.getElem?_toArray, List.getElem?_cons_succ, List.getElem?_cons_zero]) <;> with_reducible rfl
  · kernel_rfl
  · kernel_rfl
  · exact fun _ _ _ h => h
  · exact Or.inl ⟨by rfl, by (intro w hSw; (try dsimp only at hSw); go_simp <;> with_reducible rfl)⟩
  simp only [Act.put, List.setIfInBounds_toArray, List.set_cons_zero, List.set_cons_succ]
  refine wpAnyH_take (i := 3) (oi := ?_) (v := ?_) ?_ (by kernel_rfl) ?_ ?_ ?_ ?_ hHeld ?_
  rotate_left 2
  · (simp only [List.getElem?_toArray, List.getElem?_cons_succ, List.getElem?_cons_zero]) <;> with_reducible rfl
  · kernel_rfl
  · kernel_rfl
  · exact fun _ _ _ h => h
  · exact Or.inl ⟨by rfl, by (intro w hSw; (try dsimp only at hSw); go_simp <;> with_reducible rfl)⟩
  simp only [Act.put, List.setIfInBounds_toArray, List.set_cons_zero, List.set_cons_succ]
  refine wpAnyH_take (i := 4) (oi := ?_) (v := ?_) ?_ (by kernel_rfl) ?_ ?_ ?_ ?_ hHeld ?_
  rotate_left 2
  · (simp only [List.getElem?_toArray, List.getElem?_cons_succ, List.getElem?_cons_zero]) <;> with_reducible rfl
  · kernel_rfl
  · kernel_rfl
  · exact fun _ _ _ h => h
  · exact Or.inl ⟨by rfl, by (intro w hSw; (try dsimp only at hSw); go_simp <;> with_reducible rfl)⟩
  simp only [Act.put, List.setIfInBounds_toArray, List.set_cons_zero, List.set_cons_succ]
  refine wpAnyH_take (i := 5) (oi := ?_) (v := ?_) ?_ (by kernel_rfl) ?_ ?_ ?_ ?_ hHeld ?_
  rotate_left 2
  · (simp only [List.getElem?_toArray, List.getElem?_cons_succ, List.getElem?_cons_zero]) <;> with_reducible rfl
  · kernel_rfl
  · kernel_rfl
  · exact fun _ _ _ h => h
  · exact Or.inl ⟨by rfl, by (intro w hSw; (try dsimp only at hSw); go_simp <;> with_reducible rfl)⟩
  simp only [Act.put, List.setIfInBounds_toArray, List.set_cons_zero, List.set_cons_succ]
  refine wpAnyH_take (i := 6) (oi := ?_) (v := ?_) ?_ (by kernel_rfl) ?_ ?_ ?_ ?_ hHeld ?_
  rotate_left 2
  · (simp only [List.getElem?_toArray, List.getElem?_cons_succ, List.getElem?_cons_zero]) <;> with_reducible rfl
  · kernel_rfl
  · kernel_rfl
  · exact fun _ _ _ h => h
  · exact Or.inl ⟨by rfl, by (intro w hSw; (try dsimp only at hSw); go_simp <;> with_reducible rfl)⟩
  simp only [Act.put, List.setIfInBounds_toArray, List.set_cons_zero, List.set_cons_succ]
  refine wpAnyH_take (i := 7) (oi := ?_) (v := ?_) ?_ (by kernel_rfl) ?_ ?_ ?_ ?_ hHeld ?_
  rotate_left 2
  · (simp only [List.getElem?_toArray, List.getElem?_cons_succ, List.getElem?_cons_zero]) <;> with_reducible rfl
  · kernel_rfl
  · kernel_rfl
  · exact fun _ _ _ h => h
  · exact Or.inl ⟨by rfl, by (intro w hSw; (try dsimp only at hSw); go_simp <;> with_reducible rfl)⟩
  simp only [Act.put, List.setIfInBounds_toArray, List.set_cons_zero, List.set_cons_succ]
  refine wpAnyH_take (i := 8) (oi := ?_) (v := ?_) ?_ (by kernel_rfl) ?_ ?_ ?_ ?_ hHeld ?_
  rotate_left 2
  · (simp only [List.getElem?_toArray, List.getElem?_cons_succ, List.getElem?_cons_zero]) <;> with_reducible rfl
  · kernel_rfl
  · kernel_rfl
  · exact fun _ _ _ h => h
  · exact Or.inl ⟨by rfl, by (intro w hSw; (try dsimp only at hSw); go_simp <;> with_reducible rfl)⟩
  simp only [Act.put, List.setIfInBounds_toArray, List.set_cons_zero, List.set_cons_succ]
  refine wpAnyH_take (i := 9) (oi := ?_) (v := ?_) ?_ (by kernel_rfl) ?_ ?_ ?_ ?_ hHeld ?_
  rotate_left 2
  · (simp only [List.getElem?_toArray, List.getElem?_cons_succ, List.getElem?_cons_zero]) <;> with_reducible rfl
  · kernel_rfl
  · kernel_rfl
  · exact fun _ _ _ h => h
  · exact Or.inl ⟨by rfl, by (intro w hSw; (try dsimp only at hSw); go_simp <;> with_reducible rfl)⟩
  simp only [Act.put, List.setIfInBounds_toArray, List.set_cons_zero, List.set_cons_succ]
  refine wpAnyH_take (i := 10) (oi := ?_) (v := ?_) ?_ (by kernel_rfl) ?_ ?_ ?_ ?_ hHeld ?_
  rotate_left 2
  · (simp only [List.getElem?_toArray, List.getElem?_cons_succ, List.getElem?_cons_zero]) <;> with_reducible rfl
  · kernel_rfl
  · kernel_rfl
  · exact fun _ _ _ h => h
  · exact Or.inl ⟨by rfl, by (intro w hSw; (try dsimp only at hSw); go_simp <;> with_reducible rfl)⟩
  simp only [Act.put, List.setIfInBounds_toArray, List.set_cons_zero, List.set_cons_succ]
  refine wpAnyH_ready (rs := [11]) (by kernel_rfl) (by simp) (AllReadyH.cons (o := ?_) ?_ (fun K hK => ?_) AllReadyH.nil)
  rotate_left 1
  · (simp only [List.getElem?_toArray, List.getElem?_cons_succ, List.getElem?_cons_zero]) <;> with_reducible rfl
  go_simp
  refine (unhide HNO _ (Below.refl _ _).drew).mono ?_
  rintro e x1 ⟨rfl, HBx1'⟩
  have HBx1 : Hid (Below w.heap.size w x1) := ((Below.refl w.heap.size w).drew).trans ((unhide HBx1').mono (Nat.le_refl _))
  have k0 : x1.cell? ⟨B, 0, none⟩ = some (.pointer (some ⟨D, 0, none⟩)) := by rw [(unhide HBx1).cell (unhide HBL)]; exact c0
  have k1 : x1.cell? ⟨B, 1, none⟩ = some (.slice (some ⟨G, 0, none⟩) m pc) := by rw [(unhide HBx1).cell (unhide HBL)]; exact c1
  have k2 : x1.cell? ⟨G, 0, none⟩ = some (.int .i64 (s.first : Int)) := by rw [(unhide HBx1).cell (unhide HGL)]; exact d0
  clear HBx1' hHeld
  refine hK.out _ _ (And.intro k0 (And.intro k1 k2)) (fun hHeld => ?_)
  clear hK K
  try simp only [Act.put, List.setIfInBounds_toArray, List.set_cons_zero, List.set_cons_succ]
  refine wpAnyH_ready (rs := [12]) (by kernel_rfl) (by simp) (AllReadyH.cons (o := ?_) ?_ (fun K hK => ?_) AllReadyH.nil)
  rotate_left 1
  · (simp only [List.getElem?_toArray, List.getElem?_cons_succ, List.getElem?_cons_zero]) <;> with_reducible rfl
  go_simp
  refine (unhide HDR _ (unhide HBx1)).mono ?_
  rintro e x2 ⟨rfl, HRK⟩
  have q0 : x2.cell? ⟨B, 0, none⟩ = some (.pointer (some ⟨D, 0, none⟩)) := (unhide HRK).cells k0 (unhide HTG).1
  have q1 : x2.cell? ⟨B, 1, none⟩ = some (.slice (some ⟨G, 0, none⟩) m pc) := (unhide HRK).cells k1 (unhide HTG).1
  have q2 : x2.cell? ⟨G, 0, none⟩ = some (.int .i64 (s.first : Int)) := (unhide HRK).cells k2 (unhide HTG).2
  clear hHeld
  refine hK.out _ _ (And.intro q0 (And.intro q1 q2)) (fun hHeld => ?_)
  clear hK K
  try simp only [Act.put, List.setIfInBounds_toArray, List.set_cons_zero, List.set_cons_succ]
  refine wpAnyH_take (i := 13) (oi := ?_) (v := ?_) ?_ (by kernel_rfl) ?_ ?_ ?_ ?_ hHeld ?_
  rotate_left 2
  · (simp only [List.getElem?_toArray, List.getElem?_cons_succ, List.getElem?_cons_zero]) <;> with_reducible rfl
  · kernel_rfl
  · kernel_rfl
  · exact fun _ _ _ h => h
  · exact Or.inl ⟨by rfl, by (intro w hSw; (try dsimp only at hSw); go_simp <;> with_reducible rfl)⟩
  simp only [Act.put, List.setIfInBounds_toArray, List.set_cons_zero, List.set_cons_succ]
  refine wpAnyH_done (by kernel_rfl) ?_ _

  clear HNO HDR hHeld
  obtain ⟨g2, hd2, st2⟩ := unhide HRK
  have hh2 := ((unhide HH).below (unhide HBx1)).keep st2 (fun t h1 h0 => tg01 h1 h0)
  have HH2 := hide hh2
  have HD2 := hide hd2
  have HS2 := hide st2
  have HDE := hide (delete0 G pc l x2 hh2.ow (by rw [← unhide HM]; exact hmp) hm6)
  rw [← unhide HM] at HDE
  clear hh2 hd2 st2 HRK k0 k1 k2
  go_wp2_with fail
  refine (unhide HDE).mono ?_
  rintro e x3 ⟨rfl, HG3, HO3⟩
  have hB3 : x3.heap[B]? = x2.heap[B]? := (unhide HG3).block B (unhide HH2).lt (fun e => by
    have := (unhide HH2).gB
    rw [Option.some.inj e, (unhide HH2).gP G rfl] at this
    cases this)
  have z1 : x3.cell? ⟨B, 1, none⟩ = some (.slice (some ⟨G, 0, none⟩) m pc) := by rw [World.cell?_of_block (w := x2) hB3]; exact q1
  have zf : x3.frozen? ⟨B, 1, none⟩ = false := frozen_of_row _ _ _ _ _ (hB3.trans (unhide HH2).st)
  clear hB3 HDE
  go_wp2_with fail
  go_ret
  obtain ⟨y1, y2⟩ := (unhide HH2).tl (unhide HG3) (unhide HO3)
  rw [← unhide HM] at y1 y2
  exact ⟨rfl, g2, _, _, _, y1, (unhide HD2).keep1 y2, ((St.ofBelow g X01 (unhide HBx1)).trans ((unhide HS2).mono (fun t ht => .inl ht))).trans (y2.mono (fun t ht => .inr ht))⟩
#print axioms dropF5
end Go.Proofs.YtmcgghjeocnpnaaGreatDoor
end
