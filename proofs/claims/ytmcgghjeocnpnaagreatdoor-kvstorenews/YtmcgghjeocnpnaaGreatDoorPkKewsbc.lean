/-
  seglog: what is read of a file's bytes (readSegment).
-/
import Derived.Test.YtmcgghjeocnpnaaGreatDoorPkKewsay
import Derived.Test.YtmcgghjeocnpnaaGreatDoorPkKewsbb
import Derived.Test.YtmcgghjeocnpnaaGreatDoorPkKewsao
section
set_option linter.unusedVariables false
set_option maxRecDepth 1000000
namespace Go.Proofs.YtmcgghjeocnpnaaGreatDoor
open Go.RowKit Go.Maps

theorem rdR_le (b : List UInt8) : ∀ (f : Nat) (s : Sg), s.size ≤ b.length → s.next ≤ 9223372036854775807 → (rdR b f s).size ≤ b.length ∧ (rdR b f s).next ≤ 9223372036854775807 ∧ (rdR b f s).first = s.first
  | 0, s, h1, h2 => ⟨h1, h2, rfl⟩
  | f + 1, s, h1, h2 => by
    unfold rdR
    split
    · exact ⟨h1, h2, rfl⟩
    · rename_i hmx
      split
      · exact ⟨h1, h2, rfl⟩
      · rename_i hu
        split
        · exact ⟨h1, h2, rfl⟩
        · have hsz := unframe_size (b.drop s.size) (by simpa using hu)
          simp only [List.length_drop] at hsz
          have := rdR_le b f (s.put ((unframe (b.drop s.size)).1.drop (rd (unframe (b.drop s.size)).1).2.1) (unframe (b.drop s.size)).2.1) (by simp [Sg.put]; omega) (by simp [Sg.put, Sg.next] at hmx h2 ⊢; omega)
          exact ⟨this.1, this.2.1, this.2.2⟩
/-- The rows of a segment that is new since a world. -/
structure NewR (wr : World) (base : Nat) (rp : Option Addr) (rc : Nat) (vs : List Sl) (rs : List (List UInt8)) : Prop where
  ow : OwnS wr 0 rp rc vs
  n : vs.length = rs.length
  lo : ∀ k, blk rp = some k → base ≤ k
  at' : ∀ (j : Nat) (v : Sl) (r : List UInt8), vs[j]? = some v → rs[j]? = some r → v.2.1 = r.length ∧ Bs wr v.1 v.2.2 r ∧ ∀ k, blk v.1 = some k → base ≤ k ∧ k < wr.heap.size ∧ blk rp ≠ some k
theorem NewR.below {wr w' : World} {base : Nat} {rp : Option Addr} {rc : Nat} {vs : List Sl} {rs : List (List UInt8)} (h : NewR wr base rp rc vs rs) (hb : Below wr.heap.size wr w') : NewR w' base rp rc vs rs :=
  ⟨h.ow.below hb (Nat.le_refl _), h.n, h.lo, fun j v r h1 h2 => by
    obtain ⟨a, b, c⟩ := h.at' j v r h1 h2
    exact ⟨a, b.below hb (Nat.le_refl _), fun k hk => ⟨(c k hk).1, Nat.lt_of_lt_of_le (c k hk).2.1 hb.size, (c k hk).2.2⟩⟩⟩
theorem NewR.put {w w' : World} {base G zz k : Nat} {rp x : Option Addr} {rc xc R c : Nat} {vs : List Sl} {rs : List (List UInt8)} {r : List UInt8} {o : Nat} (h : NewR w base rp rc vs rs) (hG : G < w.heap.size) (hGr : blk rp ≠ some G) (hGv : ∀ (j : Nat) (v : Sl), vs[j]? = some v → blk v.1 ≠ some G) (hbase : base ≤ w.heap.size) (hx : Bs w x xc r) (hxk : ∀ j, blk x = some j → base ≤ j ∧ j < w.heap.size ∧ j ≠ G ∧ blk rp ≠ some j) (hp : PutR w w' G o zz k rp vs (x, r.length, xc) R c) : NewR w' base (some ⟨R, 0, none⟩) c (vs ++ [(x, r.length, xc)]) (rs ++ [r]) := by
  have hRlt : ∀ j, j < w.heap.size → blk rp ≠ some j → R ≠ j := fun j hj hn e => by
    rcases hp.loc with h1 | h1
    · exact hn (by rw [h1, e])
    · omega
  refine ⟨hp.ow, by simp [h.n], fun j hj => ?_, fun j v q h1 h2 => ?_⟩
  · simp [blk] at hj
    subst hj
    rcases hp.loc with h1 | h1
    · exact h.lo _ h1
    · omega
  · have hkeep : ∀ (y : Option Addr) (yc : Nat) (q : List UInt8), Bs w y yc q → (∀ m, blk y = some m → base ≤ m ∧ m < w.heap.size ∧ m ≠ G ∧ blk rp ≠ some m) → Bs w' y yc q ∧ ∀ m, blk y = some m → base ≤ m ∧ m < w'.heap.size ∧ blk (some (⟨R, 0, none⟩ : Addr)) ≠ some m := fun y yc q hb hm => ⟨hb.same9 (fun m e => hp.block m (hm m e).2.1 (hm m e).2.2.1 (hm m e).2.2.2), fun m e => ⟨(hm m e).1, Nat.lt_of_lt_of_le (hm m e).2.1 hp.size, fun e2 => hRlt m (hm m e).2.1 (hm m e).2.2.2 (by simpa [blk] using e2)⟩⟩
    by_cases hj : j < vs.length
    · rw [List.getElem?_append_left hj] at h1
      rw [List.getElem?_append_left (by rw [← h.n]; exact hj)] at h2
      obtain ⟨a, b, c⟩ := h.at' j v q h1 h2
      have := hkeep v.1 v.2.2 q b (fun m e => ⟨(c m e).1, (c m e).2.1, fun e2 => hGv j v h1 (by rw [e, e2]), (c m e).2.2⟩)
      exact ⟨a, this.1, this.2⟩
    · have hj2 := (List.getElem?_eq_some_iff.1 h1).1
      simp at hj2
      obtain rfl : j = vs.length := by omega
      rw [List.getElem?_append_right (Nat.le_refl _), Nat.sub_self] at h1
      rw [h.n, List.getElem?_append_right (Nat.le_refl _), Nat.sub_self] at h2
      simp at h1 h2
      subst h1
      subst h2
      have := hkeep x xc r hx hxk
      exact ⟨rfl, this.1, this.2⟩
/-- readSegment at work. -/
structure RsS (w wr : World) (g5 : Nat) (s : Sg) (rp : Option Addr) (rc : Nat) (vs : List Sl) : Prop where
  rt : wr.heap[w.heap.size]? = some (.cells #[.int .i64 0, .slice none 0 0, .int .i64 0] 122 (0, 0))
  lc : wr.heap[g5]? = some (.cells #[.int .i64 (s.first : Int), .slice rp s.recs.length rc, .int .i64 (s.size : Int)] 122 (0, 0))
  nr : NewR wr (g5 + 1) rp rc vs s.recs
  gt : w.heap.size < g5
  bl : Below w.heap.size w wr
theorem RsS.below {w wr w' : World} {g5 : Nat} {s : Sg} {rp : Option Addr} {rc : Nat} {vs : List Sl} (h : RsS w wr g5 s rp rc vs) (hb : Below wr.heap.size wr w') : RsS w w' g5 s rp rc vs :=
  ⟨(hb.block _ (Array.getElem?_eq_some_iff.1 h.rt).1).trans h.rt, (hb.block _ (Array.getElem?_eq_some_iff.1 h.lc).1).trans h.lc, h.nr.below hb, h.gt, h.bl.trans (hb.mono h.bl.size)⟩
theorem RsS.lt {w wr : World} {g5 : Nat} {s : Sg} {rp : Option Addr} {rc : Nat} {vs : List Sl} (h : RsS w wr g5 s rp rc vs) : g5 < wr.heap.size := (Array.getElem?_eq_some_iff.1 h.lc).1
theorem RsS.put {w wr w' : World} {g5 : Nat} {s : Sg} {rp x : Option Addr} {rc xc k R c : Nat} {vs : List Sl} {r : List UInt8} (h : RsS w wr g5 s rp rc vs) (hx : Bs wr x xc r) (hxk : ∀ j, blk x = some j → g5 + 1 ≤ j ∧ j < wr.heap.size ∧ blk rp ≠ some j) (hp : PutR wr w' g5 0 s.size k rp vs (x, r.length, xc) R c) :
    RsS w w' g5 (s.put r k) (some ⟨R, 0, none⟩) c (vs ++ [(x, r.length, xc)]) := by
  have hvl : vs.length = s.recs.length := h.nr.n
  have hb : ∀ j, j < g5 → w'.heap[j]? = wr.heap[j]? := fun j hj => hp.block j (by have := h.lt; omega) (by omega) (fun e => by have := h.nr.lo j e; omega)
  refine ⟨(hb _ h.gt).trans h.rt, ?_, h.nr.put h.lt (fun e => by have := h.nr.lo g5 e; omega) (fun j v hv e => ?_) (by have := h.lt; omega) hx (fun j hj => ⟨(hxk j hj).1, (hxk j hj).2.1, by have := (hxk j hj).1; omega, (hxk j hj).2.2⟩) hp, h.gt, ?_⟩
  · rw [hp.row _ _ h.lc]
    simp [Sg.put, hvl]
  · have hj := (List.getElem?_eq_some_iff.1 hv).1
    obtain ⟨q, hq⟩ : ∃ q, s.recs[j]? = some q := ⟨_, List.getElem?_eq_getElem (by rw [← hvl]; exact hj)⟩
    have := ((h.nr.at' j v q hv hq).2.2 g5 e).1
    omega
  · exact ⟨hp.os.trans h.bl.os, hp.tape.trans h.bl.tape, hp.output.trans h.bl.output, Nat.le_trans h.bl.size hp.size, fun j hj => (hb j (by have := h.gt; omega)).trans (h.bl.block j hj)⟩
#print axioms RsS.put
theorem OwnS.room {w : World} {a : Option Addr} {c : Nat} {vs : List Sl} (h : OwnS w 0 a c vs) : vs.length ≤ c := by
  rcases h.cases with ⟨_, _, e⟩ | ⟨_, _, _, _, _, e, _⟩
  · rw [e]; simp
  · exact e
theorem NewR.same {wr w' : World} {base : Nat} {rp : Option Addr} {rc : Nat} {vs : List Sl} {rs : List (List UInt8)} (h : NewR wr base rp rc vs rs) (e : ∀ k, base ≤ k → k < wr.heap.size → w'.heap[k]? = wr.heap[k]?) (hz : wr.heap.size ≤ w'.heap.size) : NewR w' base rp rc vs rs :=
  ⟨h.ow.same9 (fun k hk => e k (h.lo k hk) (h.ow.lt k hk).2), h.n, h.lo, fun j v r h1 h2 => by
    obtain ⟨a, b, c⟩ := h.at' j v r h1 h2
    exact ⟨a, b.same9 (fun k hk => e k (c k hk).1 (c k hk).2.1), fun k hk => ⟨(c k hk).1, Nat.lt_of_lt_of_le (c k hk).2.1 hz, (c k hk).2.2⟩⟩⟩
theorem NewR.lower {wr : World} {base base' : Nat} {rp : Option Addr} {rc : Nat} {vs : List Sl} {rs : List (List UInt8)} (h : NewR wr base rp rc vs rs) (hb : base' ≤ base) : NewR wr base' rp rc vs rs :=
  ⟨h.ow, h.n, fun k hk => Nat.le_trans hb (h.lo k hk), fun j v r h1 h2 => by
    obtain ⟨a, b, c⟩ := h.at' j v r h1 h2
    exact ⟨a, b, fun k hk => ⟨Nat.le_trans hb (c k hk).1, (c k hk).2⟩⟩⟩
theorem RsS.cells {w wr : World} {g5 : Nat} {s : Sg} {rp : Option Addr} {rc : Nat} {vs : List Sl} (h : RsS w wr g5 s rp rc vs) :
    wr.cell? ⟨w.heap.size, 0, none⟩ = some (.int .i64 0) ∧ wr.cell? ⟨w.heap.size, 1, none⟩ = some (.slice none 0 0) ∧ wr.cell? ⟨w.heap.size, 2, none⟩ = some (.int .i64 0) ∧ wr.frozen? ⟨w.heap.size, 0, none⟩ = false ∧ wr.frozen? ⟨w.heap.size, 1, none⟩ = false ∧ wr.frozen? ⟨w.heap.size, 2, none⟩ = false ∧ wr.cell? ⟨g5, 0, none⟩ = some (.int .i64 (s.first : Int)) ∧ wr.cell? ⟨g5, 1, none⟩ = some (.slice rp s.recs.length rc) ∧ wr.cell? ⟨g5, 2, none⟩ = some (.int .i64 (s.size : Int)) :=
  ⟨cell_of_row _ _ _ _ _ _ h.rt, cell_of_row _ _ _ _ _ _ h.rt, cell_of_row _ _ _ _ _ _ h.rt, frozen_of_row _ _ _ _ _ h.rt, frozen_of_row _ _ _ _ _ h.rt, frozen_of_row _ _ _ _ _ h.rt, cell_of_row _ _ _ _ _ _ h.lc, cell_of_row _ _ _ _ _ _ h.lc, cell_of_row _ _ _ _ _ _ h.lc⟩
theorem set3o (w : World) (R : Nat) (a0 a1 a2 v0 v1 v2 : Value) (T : TypeId) (h : w.heap[R]? = some (.cells #[a0, a1, a2] T (0, 0))) :
    (((w.setCell ⟨R, 0, none⟩ v0).setCell ⟨R, 1, none⟩ v1).setCell ⟨R, 2, none⟩ v2).heap[R]? = some (.cells #[v0, v1, v2] T (0, 0)) ∧ (∀ k, k ≠ R → (((w.setCell ⟨R, 0, none⟩ v0).setCell ⟨R, 1, none⟩ v1).setCell ⟨R, 2, none⟩ v2).heap[k]? = w.heap[k]?) ∧ ∀ (w0 : World) (B : Nat), Below B w0 w → B ≤ R → Below B w0 (((w.setCell ⟨R, 0, none⟩ v0).setCell ⟨R, 1, none⟩ v1).setCell ⟨R, 2, none⟩ v2) := by
  have hs : ∀ k, k ≠ R → (((w.setCell ⟨R, 0, none⟩ v0).setCell ⟨R, 1, none⟩ v1).setCell ⟨R, 2, none⟩ v2).heap[k]? = w.heap[k]? := fun k hk => by
    rw [Below.heap_setCell _ ⟨R, 2, none⟩ _ k hk, Below.heap_setCell _ ⟨R, 1, none⟩ _ k hk, Below.heap_setCell _ ⟨R, 0, none⟩ _ k hk]
  refine ⟨by rw [heap_setCell_same _ _ 2 _ _ _ (heap_setCell_same _ _ 1 _ _ _ (heap_setCell_same _ _ 0 _ _ _ h))]; rfl, hs, fun w0 B hb hB => ⟨hb.os, hb.tape, hb.output, by simp [World.setCell]; exact hb.size, fun k hk => (hs k (by omega)).trans (hb.block k hk)⟩⟩
theorem RsS.ret {w wr : World} {g5 : Nat} {s : Sg} {rp : Option Addr} {rc : Nat} {vs : List Sl} (h : RsS w wr g5 s rp rc vs) :
    let X := ((wr.setCell ⟨w.heap.size, 0, none⟩ (.int .i64 (s.first : Int))).setCell ⟨w.heap.size, 1, none⟩ (.slice rp s.recs.length rc)).setCell ⟨w.heap.size, 2, none⟩ (.int .i64 (s.size : Int))
    X.cell? ⟨w.heap.size, 0, none⟩ = some (.int .i64 (s.first : Int)) ∧ X.cell? ⟨w.heap.size, 1, none⟩ = some (.slice rp s.recs.length rc) ∧ X.cell? ⟨w.heap.size, 2, none⟩ = some (.int .i64 (s.size : Int)) ∧ Below w.heap.size w X ∧ NewR X w.heap.size rp rc vs s.recs := by
  intro X
  obtain ⟨s1, s2, s3⟩ := set3o wr w.heap.size _ _ _ (.int .i64 (s.first : Int)) (.slice rp s.recs.length rc) (.int .i64 (s.size : Int)) _ h.rt
  have hz : wr.heap.size ≤ X.heap.size := by simp [X, World.setCell]
  exact ⟨cell_of_row _ _ _ _ _ _ s1, cell_of_row _ _ _ _ _ _ s1, cell_of_row _ _ _ _ _ _ s1, s3 w _ h.bl (Nat.le_refl _), (h.nr.same (fun k hk _ => s2 k (by have := h.gt; omega)) hz).lower (by have := h.gt; omega)⟩
theorem unframe_pl (l : List UInt8) : (unframe l).1.length ≤ l.length := by
  unfold unframe
  split
  · simp
  · split
    · simp
    · split
      · simp
      · split
        · simp; omega
        · simp
/-- What readSegment hands back. -/
def RsP (first : Nat) (b : List UInt8) (w : World) (e : Ending) (w' : World) : Prop := ∃ (s : Sg) (rp : Option Addr) (rc : Nat) (vs : List Sl), e = .returned (.agg #[.int .i64 (s.first : Int), .slice rp s.recs.length rc, .int .i64 (s.size : Int)]) ∧ Hid (s = rdS first b) ∧ Hid (NewR w' w.heap.size rp rc vs s.recs) ∧ Hid (Below w.heap.size w w')
theorem RsP.mk {first : Nat} {b : List UInt8} {w : World} {e : Ending} {w' : World} (s : Sg) (rp : Option Addr) (rc : Nat) (vs : List Sl) (he : e = .returned (.agg #[.int .i64 (s.first : Int), .slice rp s.recs.length rc, .int .i64 (s.size : Int)])) (h1 : Hid (s = rdS first b)) (h2 : Hid (NewR w' w.heap.size rp rc vs s.recs)) (h3 : Hid (Below w.heap.size w w')) : RsP first b w e w' := ⟨s, rp, rc, vs, he, h1, h2, h3⟩
theorem rdR_step (b : List UInt8) (f : Nat) (s : Sg) (h1 : s.next ≠ 9223372036854775807) (h2 : (unframe (b.drop s.size)).2.2 = 0) (h3 : (rd (unframe (b.drop s.size)).1).2.2 = 0) (h4 : (rd (unframe (b.drop s.size)).1).1 = s.next) : rdR b (f + 1) s = rdR b f (s.put ((unframe (b.drop s.size)).1.drop (rd (unframe (b.drop s.size)).1).2.1) (unframe (b.drop s.size)).2.1) := by
  rw [rdR, if_neg h1, if_neg (by rw [h2]; simp), if_neg (by rw [h3, h4]; simp)]
set_option maxHeartbeats 8000000 in
theorem readSeg5 (first : Nat) (x : Option Addr) (xc : Nat) (b : List UInt8) (w : World) (hb : Bs w x xc b) (hl : b.length ≤ 6000000) (hf : first ≤ 9223372036854775807) :
    Calls Tryz.prog 103 #[.int .i64 (first : Int), .slice x b.length xc] w (RsP first b w) := by
  obtain ⟨g5, hg5⟩ : ∃ g, g = w.heap.size + 1 := ⟨_, rfl⟩
  obtain ⟨V, hV⟩ : ∃ V, V = (w.alloc (.cells #[.int .i64 0, .slice none 0 0, .int .i64 0] 122)).alloc (.cells #[.int .i64 (first : Int), .slice none 0 0, .int .i64 0] 122) := ⟨_, rfl⟩
  have hsz : (w.alloc (.cells #[.int .i64 0, .slice none 0 0, .int .i64 0] 122)).heap.size = w.heap.size + 1 := World.size_alloc _ _
  have HV0 : Hid (RsS w V g5 ⟨first, [], 0⟩ none 0 []) := by
    have b1 : Below w.heap.size w (w.alloc (.cells #[.int .i64 0, .slice none 0 0, .int .i64 0] 122)) := (Below.refl _ _).alloc (Nat.le_refl _) _
    have b2 : Below (w.heap.size + 1) (w.alloc (.cells #[.int .i64 0, .slice none 0 0, .int .i64 0] 122)) V := by rw [hV, ← hsz]; exact (Below.refl _ _).alloc (Nat.le_refl _) _
    refine ⟨(b2.block _ (by omega)).trans (heap_alloc_new w _), ?_, ⟨OwnS.nil _ _, rfl, fun k hk => by simp [blk] at hk, fun j v r h => by simp at h⟩, by omega, b1.trans (b2.mono (by omega))⟩
    rw [hg5, ← hsz, hV]
    exact heap_alloc_new _ _
  have HBB := hide hb
  have hle := hb.le
  have Hrow : Hid (b ≠ [] → ∃ p off, x = some ⟨p, off, none⟩) := fun h => by obtain ⟨p, off, e, _⟩ := hb.row h; exact ⟨p, off, e⟩
  have HRD : Hid (rdS first b = rdR b (b.length + 1) ⟨first, [], 0⟩) := rfl
  clear hb hsz
  go_enter Tryz.func103, Tryz.ntmps103
  go_upto_region 2 with fail
  rw [← hV, ← hg5]
  clear hV hg5
  go_loopw [6] (fun _ wr => ∃ (f : Nat) (s : Sg) (rp : Option Addr) (rc : Nat) (vs : List Sl), s.size ≤ b.length ∧ s.next ≤ 9223372036854775807 ∧ s.recs.length * 7 ≤ s.size ∧ b.length + 1 ≤ f + s.size ∧ Hid (rdS first b = rdR b f s) ∧ Hid (RsS w wr g5 s rp rc vs)) (fun _ wr => match wr.cell? ⟨g5, 2, none⟩ with | some (.int _ z) => b.length - z.toNat | _ => 0)
  case atStart => exact ⟨b.length + 1, ⟨first, [], 0⟩, none, 0, [], Nat.zero_le _, hf, Nat.le_refl _, by omega, HRD, HV0⟩
  case round =>
    clear HV0 HRD
    obtain ⟨f, s, rp, rc, vs, hs1, hs2, hs7, hfz, HRD, HS⟩ := hrel
    obtain ⟨f, rfl⟩ : ∃ f', f = f' + 1 := ⟨f - 1, by omega⟩
    have HNXT : Hid (∀ v, Below wr.heap.size wr v → Calls Tryz.prog 58 #[.pointer (some ⟨g5, 0, none⟩)] v fun e v' => e = .returned (.int .i64 ((s.first + s.recs.length : Nat) : Int)) ∧ Hid (Below v.heap.size v v')) := fun v hb => by
      obtain ⟨_, _, _, _, _, _, a0, a1, _⟩ := ((unhide HS).below hb).cells
      exact snext_any g5 0 s.first s.recs.length rc rp v a0 a1 hs2
    obtain ⟨n, hn⟩ : ∃ n, n = s.next := ⟨_, rfl⟩
    have hn2 : s.first + s.recs.length = n := hn.symm
    rw [hn2] at HNXT
    rw [← hn] at hs2
    have HN := hide hn
    clear hn hn2
    obtain ⟨yt, hsl, hBt⟩ := slice_tail x xc s.size b hle hs1 (unhide Hrow)
    have HBT := hide hBt
    have hsl' : ∀ v, (Instr.slice 86 (.slice x b.length xc) (some (.int .i64 (s.size : Int))) none none).run Tryz.prog v = .ok (.slice yt (b.length - s.size) (xc - s.size)) v := fun v => by have := hsl v; rw [List.length_drop] at this; exact this
    clear hsl hBt
    have hrl : s.recs.length ≤ 900000 := by omega
    by_cases hmx : n = 9223372036854775807
    · have e0 : ((n : Int) != 9223372036854775807) = false := by rw [hmx]; rfl
      have HEND : Hid (s = rdS first b) := by show _ = _; rw [unhide HRD, rdR, if_pos ((unhide HN).symm.trans hmx)]
      clear hmx
      go_wp2_with fail
      refine (unhide HNXT _ (Below.refl _ _)).mono ?_
      rintro e v1 ⟨rfl, HB1⟩
      have HS1 := hide ((unhide HS).below (unhide HB1))
      clear HNXT hsl'
      obtain ⟨z0, z1, z2, f0, f1, f2, a0, a1, a2⟩ := (unhide HS1).cells
      obtain ⟨X, hX⟩ : ∃ X, X = ((v1.setCell ⟨w.heap.size, 0, none⟩ (.int .i64 (s.first : Int))).setCell ⟨w.heap.size, 1, none⟩ (.slice rp s.recs.length rc)).setCell ⟨w.heap.size, 2, none⟩ (.int .i64 (s.size : Int)) := ⟨_, rfl⟩
      obtain ⟨q0, q1, q2, hbX, hnX⟩ := (unhide HS1).ret
      rw [← hX] at q0 q1 q2 hbX hnX
      have HBX := hide hbX
      have HNX2 := hide hnX
      clear hbX hnX
      go_wp2_with fail
      rw [← hX]
      refine bodyPost_ret (v := .agg #[.int .i64 (s.first : Int), .slice rp s.recs.length rc, .int .i64 (s.size : Int)]) (by simp [results, Tryz.results103, go_sem, q0, q1, q2]) rfl ?_
      exact RsP.mk s rp rc vs rfl HEND HNX2 HBX

    have e0 : ((n : Int) != 9223372036854775807) = true := by rw [bne_iff_ne]; omega
    go_wp2_with fail
    refine (unhide HNXT _ (Below.refl _ _)).mono ?_
    rintro e v1 ⟨rfl, HB1⟩
    have HS1 := hide ((unhide HS).below (unhide HB1))
    obtain ⟨_, _, _, _, _, _, _, _, a2v⟩ := (unhide HS1).cells
    have hb1w : Below w.heap.size w v1 := (unhide HS1).bl
    have HUF := hide (unframe_any yt (b.length - s.size) (xc - s.size) (b.drop s.size) v1 (unhide HBT v1 ((unhide HBB).below hb1w (Nat.le_refl _))) (by simp))
    clear hb1w HBT
    go_wp2_with fail
    refine (unhide HUF).mono ?_
    rintro e v2 ⟨a2, c2, pl, Nn, E, rfl, hr, ho2, hb2⟩
    have HB2 : Hid (Below wr.heap.size wr v2) := (unhide HB1).trans (hb2.mono (unhide HB1).size)
    have HS2 := hide ((unhide HS).below (unhide HB2))
    have HR := hide (unhide hr).symm
    have hb1s := (unhide HB1).size
    clear HUF hsl' a2v hr
    by_cases hE : E = 0
    case neg =>
      have e1 : ((E : Int) != 0) = true := by rw [bne_iff_ne]; omega
      have HEND : Hid (s = rdS first b) := by
        show _ = _
        rw [unhide HRD, rdR, if_neg (by rw [← unhide HN]; exact hmx), if_pos (by rw [unhide HR]; exact hE)]
      clear hE hmx
      obtain ⟨z0, z1, z2, f0, f1, f2, a0, a1, a2⟩ := (unhide HS2).cells
      obtain ⟨X, hX⟩ : ∃ X, X = ((v2.setCell ⟨w.heap.size, 0, none⟩ (.int .i64 (s.first : Int))).setCell ⟨w.heap.size, 1, none⟩ (.slice rp s.recs.length rc)).setCell ⟨w.heap.size, 2, none⟩ (.int .i64 (s.size : Int)) := ⟨_, rfl⟩
      obtain ⟨q0, q1, q2, hbX, hnX⟩ := (unhide HS2).ret
      rw [← hX] at q0 q1 q2 hbX hnX
      have HBX := hide hbX
      have HNX2 := hide hnX
      clear hbX hnX
      go_wp2_with fail
      rw [← hX]
      refine bodyPost_ret (v := .agg #[.int .i64 (s.first : Int), .slice rp s.recs.length rc, .int .i64 (s.size : Int)]) (by simp [results, Tryz.results103, go_sem, q0, q1, q2]) rfl ?_
      exact RsP.mk s rp rc vs rfl HEND HNX2 HBX

    subst hE
    have hpl : pl.length ≤ 6000000 := by
      have := unframe_pl (b.drop s.size)
      rw [unhide HR] at this
      simp at this
      omega
    have hus := unframe_size (b.drop s.size) (by rw [unhide HR])
    rw [unhide HR] at hus
    simp only [List.length_drop] at hus
    have HFR := hide (from_any a2 pl.length c2 pl v2 ho2.toBs rfl (by omega))
    clear ho2
    go_wp2_with fail
    refine (unhide HFR).mono ?_
    rintro e v3 ⟨C, a3, c3, rfl, hC, hCk, hak, hb3⟩
    have HB3 : Hid (Below wr.heap.size wr v3) := (unhide HB2).trans (hb3.mono (unhide HB2).size)
    have hb2s := (unhide HB2).size
    have HNU := hide (cnumber_any C a3 c3 pl 0 v3 hC)
    clear HFR hC
    go_wp2_with fail
    refine (unhide HNU).mono ?_
    rintro e v4 ⟨N2, S2, E2, rfl, hN2, hC4, hg4⟩
    have HB4 : Hid (Below wr.heap.size wr v4) := (unhide HB3).grown hg4 (unhide HB3).size (fun k hk => by have := Option.some.inj hk; omega)
    have HS4 := hide ((unhide HS).below (unhide HB4))
    have HRN := hide (unhide hN2).symm
    rw [List.drop_zero] at HRN
    have HC4 := hide hC4
    clear HNU hN2 hg4 hC4
    by_cases hE2 : E2 = 0
    case neg =>
      have e2 : ((E2 : Int) != 0) = true := by rw [bne_iff_ne]; omega
      have HEND : Hid (s = rdS first b) := by
        show _ = _
        rw [unhide HRD, rdR, if_neg (by rw [← unhide HN]; exact hmx), if_neg (by rw [unhide HR]; simp), if_pos (by rw [unhide HR]; left; show (rd pl).2.2 ≠ 0; rw [unhide HRN]; exact hE2)]
      clear hE2 hmx
      obtain ⟨z0, z1, z2, f0, f1, f2, a0, a1, a2⟩ := (unhide HS4).cells
      obtain ⟨X, hX⟩ : ∃ X, X = ((v4.setCell ⟨w.heap.size, 0, none⟩ (.int .i64 (s.first : Int))).setCell ⟨w.heap.size, 1, none⟩ (.slice rp s.recs.length rc)).setCell ⟨w.heap.size, 2, none⟩ (.int .i64 (s.size : Int)) := ⟨_, rfl⟩
      obtain ⟨q0, q1, q2, hbX, hnX⟩ := (unhide HS4).ret
      rw [← hX] at q0 q1 q2 hbX hnX
      have HBX := hide hbX
      have HNX2 := hide hnX
      clear hbX hnX
      go_wp2_with fail
      rw [← hX]
      refine bodyPost_ret (v := .agg #[.int .i64 (s.first : Int), .slice rp s.recs.length rc, .int .i64 (s.size : Int)]) (by simp [results, Tryz.results103, go_sem, q0, q1, q2]) rfl ?_
      exact RsP.mk s rp rc vs rfl HEND HNX2 HBX

    subst hE2
    by_cases hNe : N2 = n
    case neg =>
      have e2 : ((N2 : Int) != (n : Int)) = true := by rw [bne_iff_ne]; omega
      have HEND : Hid (s = rdS first b) := by
        show _ = _
        rw [unhide HRD, rdR, if_neg (by rw [← unhide HN]; exact hmx), if_neg (by rw [unhide HR]; simp), if_pos (by rw [unhide HR]; right; show (rd pl).1 ≠ _; rw [unhide HRN, ← unhide HN]; exact hNe)]
      clear hNe hmx
      go_wp2_with fail
      refine (unhide HNXT _ (unhide HB4)).mono ?_
      rintro e v5 ⟨rfl, HB5⟩
      have HS5 := hide ((unhide HS4).below (unhide HB5))
      clear HNXT
      obtain ⟨z0, z1, z2, f0, f1, f2, a0, a1, a2⟩ := (unhide HS5).cells
      obtain ⟨X, hX⟩ : ∃ X, X = ((v5.setCell ⟨w.heap.size, 0, none⟩ (.int .i64 (s.first : Int))).setCell ⟨w.heap.size, 1, none⟩ (.slice rp s.recs.length rc)).setCell ⟨w.heap.size, 2, none⟩ (.int .i64 (s.size : Int)) := ⟨_, rfl⟩
      obtain ⟨q0, q1, q2, hbX, hnX⟩ := (unhide HS5).ret
      rw [← hX] at q0 q1 q2 hbX hnX
      have HBX := hide hbX
      have HNX2 := hide hnX
      clear hbX hnX
      go_wp2_with fail
      rw [← hX]
      refine bodyPost_ret (v := .agg #[.int .i64 (s.first : Int), .slice rp s.recs.length rc, .int .i64 (s.size : Int)]) (by simp [results, Tryz.results103, go_sem, q0, q1, q2]) rfl ?_
      exact RsP.mk s rp rc vs rfl HEND HNX2 HBX

    subst hNe
    have e2 : ((N2 : Int) != (N2 : Int)) = false := by simp
    go_wp2_with fail
    refine (unhide HNXT _ (unhide HB4)).mono ?_
    rintro e v5 ⟨rfl, HB5'⟩
    have HB5 : Hid (Below wr.heap.size wr v5) := (unhide HB4).trans ((unhide HB5').mono (unhide HB4).size)
    have HRS := hide (crest_any C a3 c3 pl (0 + S2) v5 ((unhide HC4).below (unhide HB5') (Nat.le_refl _)))
    clear HNXT HC4 HB5'
    go_wp2_with fail
    refine (unhide HRS).mono ?_
    rintro e v6 ⟨a6, c6, r6, rfl, hr6, ho6, hC6, hg6⟩
    have HB6 : Hid (Below wr.heap.size wr v6) := (unhide HB5).grown hg6 (unhide HB5).size (fun k hk => by have := Option.some.inj hk; omega)
    have hS6 := (unhide HS).below (unhide HB6)
    have HS6 := hide hS6
    obtain ⟨_, _, _, _, _, _, _, y1, y2⟩ := hS6.cells
    have hb5s := (unhide HB5).size
    have hvl : vs.length = s.recs.length := hS6.nr.n
    have hneg : blk rp ≠ some g5 := fun e => by have := hS6.nr.lo g5 e; omega
    have HPU := hide (put5 g5 0 s.size Nn r6.length rc c6 rp a6 vs _ 122 v6 hS6.lc (by rw [hvl]; exact y1) y2 hS6.nr.ow hneg (by omega) (by omega))
    have HXK : Hid (∀ j, blk a6 = some j → g5 + 1 ≤ j ∧ j < v6.heap.size ∧ blk rp ≠ some j) := fun j hj => by
      have h1 := ho6.lt j hj
      have h2 := (unhide HS).lt
      refine ⟨by omega, h1.2, fun e => ?_⟩
      have := ((unhide HS).nr.ow.lt j e).2
      omega
    have HO6 := hide ho6.toBs
    have HR6 : Hid (r6 = pl.drop S2) := by have := unhide hr6; rw [Nat.zero_add] at this; exact this
    have HMX := hide hmx
    clear HRS hr6 ho6 hC6 hg6 hS6 y1 y2 hneg hvl HS4 HS2 HS1 hmx
    go_wp2_with fail
    refine (unhide HPU).mono ?_
    rintro e v7 ⟨rfl, HPR⟩
    obtain ⟨R, cR, hpr⟩ := unhide HPR
    have hS7 := (unhide HS6).put (unhide HO6) (unhide HXK) hpr
    have HS7 := hide hS7
    have k2 := hS7.cells.2.2.2.2.2.2.2.2
    have l2 := (unhide HS).cells.2.2.2.2.2.2.2.2
    have K2 := hide k2
    have L2 := hide l2
    have HR7 : Hid (rdS first b = rdR b f (s.put r6 Nn)) := by
      show _ = _
      rw [unhide HRD, rdR_step b f s (by rw [← unhide HN]; exact unhide HMX) (by rw [unhide HR]) (by rw [unhide HR]; show (rd pl).2.2 = 0; rw [unhide HRN]) (by rw [unhide HR]; show (rd pl).1 = _; rw [unhide HRN]; exact unhide HN), unhide HR]
      show rdR b f (s.put (pl.drop (rd pl).2.1) Nn) = _
      rw [unhide HRN, unhide HR6]
    have hlt9 : N2 < 9223372036854775807 := by have := unhide HMX; omega
    clear HPU HPR hpr hS7 k2 l2
    go_wp2_with fail
    go_roundw
    case rel =>
      refine ⟨f, s.put r6 Nn, some ⟨R, 0, none⟩, cR, _, by simp only [Sg.put]; omega, ?_, ?_, by simp only [Sg.put]; omega, HR7, HS7⟩
      · have := unhide HN
        simp only [Sg.put, Sg.next, List.length_append, List.length_cons, List.length_nil] at this ⊢
        omega
      · simp only [Sg.put, List.length_append, List.length_cons, List.length_nil]
        omega
    case measure =>
      rw [unhide K2, unhide L2]
      simp only [Sg.put, Int.toNat_natCast]
      omega
#print axioms readSeg5
end Go.Proofs.YtmcgghjeocnpnaaGreatDoor
end
