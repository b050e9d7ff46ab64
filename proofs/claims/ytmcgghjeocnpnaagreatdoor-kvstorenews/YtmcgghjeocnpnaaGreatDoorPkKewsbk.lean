/-
  kvstore as mathematics: what commits leave.; kvstore's statements: a store in the midst of commits.
-/
import Derived.Test.YtmcgghjeocnpnaaGreatDoorPkKewsbh
import Derived.Test.YtmcgghjeocnpnaaGreatDoorPkKewsbj
import Derived.Test.YtmcgghjeocnpnaaGreatDoorPkKewsbi
import Derived.Test.YtmcgghjeocnpnaaGreatDoorPkKewsbe
section
set_option linter.unusedVariables false
namespace Go.Proofs.YtmcgghjeocnpnaaGreatDoor
open Go.RowKit Go.Maps

theorem KOk.none : KOk (fun _ => none) := fun n x h => by cases h
theorem KOk.put {f : Its} (h : KOk f) : ∀ {l : List Im}, (∀ x ∈ l, x.k.length ≤ maxLen) → KOk (f.put l) := by
  intro l
  induction l generalizing f with
  | nil => intro _; exact h
  | cons a r ih =>
    intro hl
    show KOk (Its.put (upd f a.k (some a)) r)
    refine ih (fun n x hx => ?_) (fun x hx => hl x (List.mem_cons_of_mem _ hx))
    by_cases e : n = a.k
    · subst e
      rw [upd_same] at hx
      cases hx
      exact ⟨rfl, hl a List.mem_cons_self⟩
    · rw [upd_other _ _ _ _ e] at hx
      exact h n x hx
theorem KOk.wr {f : Its} (h : KOk f) {l : List Op6} {t : Nat} (hl : OkO l) : KOk (f.put (wrI l t)) := h.put (fun x hx => by
  obtain ⟨o, ho, rfl⟩ := List.mem_map.1 hx
  have := (hl.each o ho).2.1
  show o.k.length ≤ maxLen
  unfold maxLen
  omega)
/-- Two risen lists of the same members are one. -/
theorem rise_one {l r : List Im} (hl : Rise l) (hr : Rise r) (h : ∀ x, x ∈ l ↔ x ∈ r) : l = r := by
  have ir : ∀ a : Nm, bl a a = false := fun a => by rw [bl_eq]; simp
  have nd : ∀ {q : List Im}, Rise q → q.Nodup := fun {q} hq => hq.imp (fun {a b} hab e => by subst e; rw [ir] at hab; cases hab)
  have hp : l.Perm r := (List.perm_ext_iff_of_nodup (nd hl) (nd hr)).2 h
  refine List.Perm.eq_of_pairwise (le := fun a b : Im => bl a.k b.k = true) (fun a b _ _ h1 h2 => ?_) hl hr hp
  rw [bl_eq] at h1 h2
  exact absurd (List.lt_trans (of_decide_eq_true h1) (of_decide_eq_true h2)) (List.lt_irrefl _)
#print axioms rise_one
end Go.Proofs.YtmcgghjeocnpnaaGreatDoor
end
section
set_option linter.unusedVariables false
set_option maxRecDepth 1000000
namespace Go.Proofs.YtmcgghjeocnpnaaGreatDoor
open Go.RowKit Go.Maps Go.MuLone

/-- What items of a store at a version are like. -/
def IOk (f : Its) (v : Nat) : Prop := ∀ n x, f n = some x → 1 ≤ n.length ∧ 1 ≤ x.t ∧ x.t ≤ v
theorem IOk.put {f : Its} {v : Nat} : ∀ {l : List Im}, IOk f v → (∀ x ∈ l, 1 ≤ x.k.length ∧ 1 ≤ x.t ∧ x.t ≤ v) → IOk (f.put l) v := by
  intro l
  induction l generalizing f with
  | nil => intro h _; exact h
  | cons a r ih =>
    intro h hl
    show IOk (Its.put (upd f a.k (some a)) r) v
    refine ih (fun n x hx => ?_) (fun x hx => hl x (List.mem_cons_of_mem _ hx))
    by_cases e : n = a.k
    · subst e
      rw [upd_same] at hx
      cases hx
      exact hl a List.mem_cons_self
    · rw [upd_other _ _ _ _ e] at hx
      exact h n x hx
theorem IOk.up {f : Its} {v : Nat} (h : IOk f v) : IOk f (v + 1) := fun n x hx => by have := h n x hx; omega
theorem IOk.wr {f : Its} {v : Nat} (h : IOk f v) {l : List Op6} (hl : OkO l) : IOk (f.put (wrI l (v + 1))) (v + 1) := h.up.put (fun x hx => by
  obtain ⟨o, ho, rfl⟩ := List.mem_map.1 hx
  have := (hl.each o ho).1
  exact ⟨this, by show 1 ≤ v + 1; omega, Nat.le_refl _⟩)
/-- A store behind k calls: its log, its items, its version, how many keys were written. -/
structure KP (w0 w : World) (g : Nat → Tg) (Q : Nat) (S : List Sg) (f : Its) (v k n : Nat) : Prop where
  ks : ∃ B D m M N y all, KS w0 w g Q B D m 0 M N S f n v y ∧ Pl M S all k ∧ N + S.length ≤ 302 + 3 * k
  key : KOk f
  io : IOk f v
  vk : v ≤ k
theorem KP.st {w0 w w' : World} {g g' : Nat → Tg} {Q : Nat} {S : List Sg} {f : Its} {v k n : Nat} (h : KP w0 w g Q S f v k n) (x : St w w' g g' (fun _ => False)) : KP w0 w' g' Q S f v k n := by
  obtain ⟨B, D, m, M, N, y, all, h1, h2, h3⟩ := h.ks
  exact ⟨⟨B, D, m, M, N, y, all, h1.st x, h2, h3⟩, h.key, h.io, h.vk⟩
theorem KP.below {w0 w w' : World} {g : Nat → Tg} {Q : Nat} {S : List Sg} {f : Its} {v k n : Nat} (h : KP w0 w g Q S f v k n) (x : Below w.heap.size w w') : KP w0 w' g Q S f v k n := h.st (St.ofBelow g _ x)
/-- All that is made from now on belongs to no store. -/
def gO (w : World) (g : Nat → Tg) : Nat → Tg := fun k => if k < w.heap.size then g k else .o
theorem gO_lt {w : World} {g : Nat → Tg} {k : Nat} (h : k < w.heap.size) : gO w g k = g k := if_pos h
theorem gO_ge {w : World} {g : Nat → Tg} {k : Nat} (h : w.heap.size ≤ k) : gO w g k = .o := if_neg (by omega)
theorem KP.tag {w0 w : World} {g : Nat → Tg} {Q : Nat} {S : List Sg} {f : Its} {v k n : Nat} (h : KP w0 w g Q S f v k n) : KP w0 w (gO w g) Q S f v k n := h.st ((St.refl w g _).tag (fun _ hk => gO_lt hk))
theorem Fr.tagL {w w' : World} {g g' : Nat → Tg} (x : Fr w w' (gO w g) g') : Fr w w' g g' := ⟨x.size, fun k hk => (x.ag k hk).trans (gO_lt hk), fun k hk ho => x.block k hk (by rw [gO_lt hk]; exact ho)⟩
theorem KP.lw {w0 w : World} {g : Nat → Tg} {Q : Nat} {S : List Sg} {f : Its} {v k n : Nat} (h : KP w0 w g Q S f v k n) : LW w0 w g := by
  obtain ⟨B, D, m, M, N, y, all, h1, h2, h3⟩ := h.ks
  exact h1.lw
theorem KP.lt {w0 w : World} {g : Nat → Tg} {Q : Nat} {S : List Sg} {f : Its} {v k n : Nat} (h : KP w0 w g Q S f v k n) : Q < w.heap.size := by
  obtain ⟨B, D, m, M, N, y, all, h1, h2, h3⟩ := h.ks
  exact h1.lt
theorem KP.new {w0 w : World} {Q : Nat} {z : Int} (h : KS0 w0 w Q z) : ∃ g, KP w0 w g Q [] (fun _ => none) 0 0 0 := by
  obtain ⟨g, B, D, m, h1⟩ := h
  exact ⟨g, ⟨B, D, m, _, _, _, [], h1, Pl.start _, by simp⟩, KOk.none, fun n x hx => (by cases hx), Nat.le_refl _⟩
/-- What Commit leaves. -/
def CmP (w0 w : World) (g : Nat → Tg) (Q : Nat) (S : List Sg) (f : Its) (v k n : Nat) (l : List Op6) (w' : World) (x E : Int) : Prop :=
  ∃ g', Fr w w' g g' ∧ ((E ≠ 0 ∧ x = 0 ∧ KP w0 w' g' Q S f v (k + 1) n) ∨ (E = 0 ∧ x = ((v + 1 : Nat) : Int) ∧ OkO l ∧ ∃ S', KP w0 w' g' Q S' (f.put (wrI l (v + 1))) (v + 1) (k + 1) (n + l.length)))
theorem commit_kp (w0 : World) (g : Nat → Tg) (Q : Nat) (S : List Sg) (f : Its) (v k n : Nat) (p : Option Addr) (pc : Nat) (l : List Op6) (w : World) (hE : EnvS w0) (h : KP w0 w g Q S f v k n) (hp : OpR6 w0 p l) (hk : k ≤ 190) (hn : n ≤ 1000000) (hb : opsB l ≤ 262144) :
    Calls Tryz.prog 14 #[.pointer (some ⟨Q, 0, none⟩), .slice p l.length pc] w fun e w' => ∃ x E, e = .returned (.tuple #[.int .i64 x, .int .i64 E]) ∧ Hid (CmP w0 w g Q S f v k n l w' x E) := by
  obtain ⟨B, D, m, M, N, y, all, h1, h2, h3⟩ := h.ks
  have hvk := h.vk
  have hsl := h2.sl
  have hrc : (S.flatMap (·.recs)).length ≤ all.length := by rw [h2.rc]; simp
  have hal := h2.al
  have hsz := h2.sz
  have hzb := szB_le (k := k) (by omega)
  refine (commit6 w0 g Q B D m M N S f n v y p pc l w hE h1 (hp.below h1.lw.below (Nat.le_refl _)) (fun hne j hj => ?_) (h2.ok (by omega)) h2.wf (by omega) (by omega) (by omega) (by omega) (fun _ => h2.th.syE) (by omega) (by omega) (fun h0 => ?_)).mono ?_
  · have ho : g j = .o := h1.lw.bas j (hp.lt hne j hj)
    refine ⟨fun e => ?_, fun e => ?_, by rw [ho]; exact x01o⟩
    · rw [e, h1.gQ] at ho; cases ho
    · rw [e, h1.gm] at ho; cases ho
  · have ok := ckE_zero h0
    have := cmB_len l (v + 1) (fun o ho => ⟨(ok.each o ho).2.1, (ok.each o ho).2.2.1⟩)
    have := ok.n2
    omega
  · rintro e w' ⟨x, E, rfl, hr⟩
    refine ⟨x, E, rfl, ?_⟩
    rcases hr with ⟨c1, c2, c3, g', k1, f1⟩ | ⟨c1, c2, ⟨c3, c4, g', k1, f1⟩ | ⟨c3, c4, M', c5, g', k1, f1⟩⟩
    · exact ⟨g', f1, .inl ⟨by omega, c3, ⟨B, D, m, M, N, y, all, k1, h2.seen rfl, by omega⟩, h.key, h.io, by omega⟩⟩
    · have ok := ckE_zero c1
      have hE0 : apE M S (cmB (v + 1) (wrI l (v + 1))) = 0 := by rw [← c2, c3]
      have hr : (cmB (v + 1) (wrI l (v + 1))).length ≤ 200000 := by
        unfold apE at hE0
        split at hE0
        · cases hE0
        · split at hE0
          · cases hE0
          · rename_i q
            simp at q
            omega
      have hlen : (apS S (cmB (v + 1) (wrI l (v + 1)))).length ≤ S.length + 1 := by
        unfold apS
        split
        · split <;> simp <;> omega
        · simp
      exact ⟨g', f1, .inr ⟨c3, c4, ok, _, ⟨B, D, m, _, _, y, _, k1, h2.app (by omega) hr hE0, by omega⟩, h.key.wr ok, h.io.wr ok, by omega⟩⟩
    · refine ⟨g', f1, .inl ⟨c3, c4, ⟨B, D, m, M', _, y, all, k1, h2.seen ?_, by omega⟩, h.key, h.io, by omega⟩⟩
      rcases c5 with e | e
      · rw [e]
      · rw [e, apD_seen]
#print axioms commit_kp
/-- What Since and Scan leave: a new row, and the store as it was. -/
def ChP (w0 w : World) (g : Nat → Tg) (Q : Nat) (S : List Sg) (f : Its) (v k n : Nat) (p : Im → Bool) (w' : World) (a : Option Addr) (c : Nat) (l : List Im) : Prop :=
  ∃ g', Fr w w' g g' ∧ KP w0 w' g' Q S f v k n ∧ OwnM w' a c l ∧ (∀ j, blk a = some j → g' j = .o) ∧ Gth f p (fun _ => false) l ∧ Rise l ∧ l.length ≤ n
theorem since_kp (w0 : World) (g : Nat → Tg) (Q : Nat) (S : List Sg) (f : Its) (v k n : Nat) (z : Int) (w : World) (h : KP w0 w g Q S f v k n) (hn : n ≤ 1000000) :
    Calls Tryz.prog 15 #[.pointer (some ⟨Q, 0, none⟩), .int .i64 z] w fun e w' => ∃ a c l, e = .returned (.slice a l.length c) ∧ Hid (ChP w0 w g Q S f v k n (fun x => decide (z < (x.t : Int))) w' a c l) := by
  obtain ⟨B, D, m, M, N, y, all, h1, h2, h3⟩ := h.tag.ks
  refine (since6 w0 (gO w g) Q B D m M N S f n v y z w h1 h.key hn).mono ?_
  rintro e w' ⟨a, c, l, rfl, q1, q2, ⟨q3, q4, q7⟩, q5, q6⟩
  exact ⟨a, c, l, rfl, gO w g, (unhide q6).tagL, ⟨⟨B, D, m, M, N, y, all, q5, h2, h3⟩, h.key, h.io, h.vk⟩, q1, fun j hj => gO_ge (unhide q2 j hj), q3, q4, q7⟩
theorem scan_kp (w0 : World) (g : Nat → Tg) (Q : Nat) (S : List Sg) (f : Its) (v k n : Nat) (pf pt : Nm) (w : World) (h : KP w0 w g Q S f v k n) (hn : n ≤ 1000000) :
    Calls Tryz.prog 21 #[.pointer (some ⟨Q, 0, none⟩), .string (str pf), .string (str pt)] w fun e w' => ∃ a c l, e = .returned (.slice a l.length c) ∧ Hid (ChP w0 w g Q S f v k n (fun x => scP pf pt x) w' a c l) := by
  obtain ⟨B, D, m, M, N, y, all, h1, h2, h3⟩ := h.tag.ks
  refine (scan6 w0 (gO w g) Q B D m M N S f n v y pf pt w h1 h.key hn).mono ?_
  rintro e w' ⟨a, c, l, rfl, q1, q2, ⟨q3, q4, q7⟩, q5, q6⟩
  exact ⟨a, c, l, rfl, gO w g, (unhide q6).tagL, ⟨⟨B, D, m, M, N, y, all, q5, h2, h3⟩, h.key, h.io, h.vk⟩, q1, fun j hj => gO_ge (unhide q2 j hj), q3, q4, q7⟩
theorem version_kp (w0 : World) (g : Nat → Tg) (Q : Nat) (S : List Sg) (f : Its) (v k n : Nat) (w : World) (h : KP w0 w g Q S f v k n) :
    Calls Tryz.prog 19 #[.pointer (some ⟨Q, 0, none⟩)] w fun e w' => e = .returned (.int .i64 (v : Int)) ∧ Hid (KP w0 w' g Q S f v k n) ∧ Hid (Fr w w' g g) := by
  obtain ⟨B, D, m, M, N, y, all, h1, h2, h3⟩ := h.ks
  refine (version6 w0 g Q B D m M N S f n v y w h1).mono ?_
  rintro e w' ⟨rfl, q5, q6⟩
  exact ⟨rfl, ⟨⟨B, D, m, M, N, y, all, q5, h2, h3⟩, h.key, h.io, h.vk⟩, q6⟩
theorem bytes_kp (w0 : World) (g : Nat → Tg) (Q : Nat) (S : List Sg) (f : Its) (v k n : Nat) (w : World) (h : KP w0 w g Q S f v k n) (hk : k ≤ 200) :
    Calls Tryz.prog 22 #[.pointer (some ⟨Q, 0, none⟩)] w fun e w' => e = .returned (.int .i64 (bySz S : Int)) ∧ Hid (KP w0 w' g Q S f v k n) ∧ Hid (Fr w w' g g) := by
  obtain ⟨B, D, m, M, N, y, all, h1, h2, h3⟩ := h.ks
  refine (bytes6 w0 g Q B D m M N S f n v y w h1 (h2.ok hk)).mono ?_
  rintro e w' ⟨rfl, q5, q6⟩
  exact ⟨rfl, ⟨⟨B, D, m, M, N, y, all, q5, h2, h3⟩, h.key, h.io, h.vk⟩, q6⟩
theorem get_kp (w0 : World) (g : Nat → Tg) (Q : Nat) (S : List Sg) (f : Its) (v k n : Nat) (c : Nm) (w : World) (h : KP w0 w g Q S f v k n) (hc : c.length ≤ maxLen) :
    Calls Tryz.prog 23 #[.pointer (some ⟨Q, 0, none⟩), .string (str c)] w fun e w' => e = .returned (.tuple #[imA (gtI f c), .bool (gtB f c)]) ∧ Hid (∃ g', KP w0 w' g' Q S f v k n ∧ Fr w w' g g') := by
  obtain ⟨B, D, m, M, N, y, all, h1, h2, h3⟩ := h.ks
  refine (get6 w0 g Q B D m M N S f n v y c w h1 hc).mono ?_
  rintro e w' ⟨rfl, g', q5, q6⟩
  exact ⟨rfl, g', ⟨⟨B, D, m, M, N, y, all, q5, h2, h3⟩, h.key, h.io, h.vk⟩, q6⟩
#print axioms get_kp
end Go.Proofs.YtmcgghjeocnpnaaGreatDoor
end
