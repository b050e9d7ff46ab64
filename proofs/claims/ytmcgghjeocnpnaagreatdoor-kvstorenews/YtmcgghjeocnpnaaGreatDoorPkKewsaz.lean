/-
  kvstore: written.; kvstore: written, walked.; kvstore: the state's write, walked.; kvstore: what no records say.
-/
import Derived.Test.YtmcgghjeocnpnaaGreatDoorPkKewsax
import Derived.Laws.OwnMore
import Derived.Deep.RegionHeld3
section
set_option linter.unusedVariables false
set_option maxRecDepth 1000000
namespace Go.Proofs.YtmcgghjeocnpnaaGreatDoor
open Go.RowKit Go.Maps

def zI : Im := ⟨[], false, [], 0⟩
/-- make([]api.Item, n). -/
theorem mkI (n : Nat) (hn : n ≤ 1000000) : ∃ M, (∀ W : World, (Instr.makeSlice 39 (.int .i64 (n : Int)) (.int .i64 (n : Int))).run Tryz.prog W = .ok (.slice (some ⟨W.heap.size, 0, none⟩) n n) (W.alloc (.cells M 47))) ∧ ∀ W : World, OwnM (W.alloc (.cells M 47)) (some ⟨W.heap.size, 0, none⟩) n (List.replicate n zI) := by
  obtain ⟨i0, hi, hz0, hz1, hz2⟩ := info_parts Tryz.infoM6
  refine ⟨madeCells (Value.agg #[.string ByteArray.empty, .bool false, .string ByteArray.empty, .int .i64 0]).cells (((n : Nat) : Int).toNat * i0.size), fun W => ?_, fun W => ?_⟩
  · have h := run_make (P := Tryz.prog) W 39 47 i0 _ Tryz.underlying39 hi hz0 .i64 .i64 (n : Int) (n : Int) (by omega) (by omega) (by rw [hz2]; omega) (by omega)
    simpa using h
  · have hl : (madeCells (Value.agg #[.string ByteArray.empty, .bool false, .string ByteArray.empty, .int .i64 0]).cells (((n : Nat) : Int).toNat * i0.size)).toList = ims (List.replicate n zI) := by
      have e : (Value.agg #[.string ByteArray.empty, .bool false, .string ByteArray.empty, .int .i64 0]).cells = #[.string ByteArray.empty, .bool false, .string ByteArray.empty, .int .i64 0] := rfl
      rw [e, hz1, Int.toNat_natCast]
      apply List.ext_getElem?
      intro p
      by_cases hp : p < n * 4
      · obtain ⟨a, b, hab, hb4⟩ : ∃ a b, p = a * 4 + b ∧ b < 4 := ⟨p / 4, p % 4, by omega, by omega⟩
        subst hab
        rw [ims_get (List.replicate n zI) a b zI (by rw [List.getElem?_replicate, if_pos (by omega)]) hb4]
        unfold madeCells
        rw [Array.getElem?_toList, Array.getElem?_map, Array.getElem?_range, if_pos hp]
        have hm : (a * 4 + b) % 4 = b := by omega
        simp only [Option.map_some, List.size_toArray, List.length_cons, List.length_nil]
        rw [show (a * 4 + b) % (0 + 1 + 1 + 1 + 1) = b from hm]
        match b, hb4 with
        | 0, _ => rfl
        | 1, _ => rfl
        | 2, _ => rfl
        | 3, _ => rfl
      · rw [List.getElem?_eq_none (by rw [Array.length_toList, size_madeCells]; omega), List.getElem?_eq_none (by rw [ims_length, List.length_replicate]; omega)]
    have hr : (List.replicate n zI).length = n := List.length_replicate
    refine ⟨by rw [ims_length], .inr ⟨W.heap.size, n, _, by rw [hr], Nat.zero_le _, heap_alloc_new W _, by rw [hr]; exact Nat.le_refl _, by unfold maxLen; omega, ?_, ?_⟩⟩
    · rw [size_madeCells, hz1]; omega
    · rw [hl, hr]
      exact List.take_of_length_le (by rw [ims_length, hr]; omega)
#print axioms mkI
end Go.Proofs.YtmcgghjeocnpnaaGreatDoor
end
section
set_option linter.unusedVariables false
set_option maxRecDepth 1000000
namespace Go.Proofs.YtmcgghjeocnpnaaGreatDoor
open Go.RowKit Go.Maps

theorem OwnM.set4 {w : World} {G cap : Nat} {l : List Im} (h : OwnM w (some ⟨G, 0, none⟩) cap l) (i : Nat) (t x : Im) (hi : l[i]? = some t) :
    OwnM ((((w.setCell ⟨G, i * 4, none⟩ (.string (str x.k))).setCell ⟨G, i * 4 + 1, none⟩ (.bool x.g)).setCell ⟨G, i * 4 + 2, none⟩ (.string (str x.v))).setCell ⟨G, i * 4 + 3, none⟩ (.int .i64 (x.t : Int))) (some ⟨G, 0, none⟩) cap (l.set i x) := by
  have hlt := (List.getElem?_eq_some_iff.1 hi).1
  have h0 := h.setAt i 0 t ⟨x.k, t.g, t.v, t.t⟩ hi (by omega) (.string (str x.k)) (fun k hk => by match k, hk with | 0, _ => rfl | 1, _ => rfl | 2, _ => rfl | 3, _ => rfl)
  have h1 := h0.setAt i 1 ⟨x.k, t.g, t.v, t.t⟩ ⟨x.k, x.g, t.v, t.t⟩ (by rw [List.getElem?_set_self hlt]) (by omega) (.bool x.g) (fun k hk => by match k, hk with | 0, _ => rfl | 1, _ => rfl | 2, _ => rfl | 3, _ => rfl)
  rw [List.set_set] at h1
  have h2 := h1.setAt i 2 ⟨x.k, x.g, t.v, t.t⟩ ⟨x.k, x.g, x.v, t.t⟩ (by rw [List.getElem?_set_self hlt]) (by omega) (.string (str x.v)) (fun k hk => by match k, hk with | 0, _ => rfl | 1, _ => rfl | 2, _ => rfl | 3, _ => rfl)
  rw [List.set_set] at h2
  have h3 := h2.setAt i 3 ⟨x.k, x.g, x.v, t.t⟩ x (by rw [List.getElem?_set_self hlt]) (by omega) (.int .i64 (x.t : Int)) (fun k hk => by match k, hk with | 0, _ => rfl | 1, _ => rfl | 2, _ => rfl | 3, _ => rfl)
  rw [List.set_set] at h3
  exact h3
theorem set4_cell {w : World} {Z G i : Nat} {a b c d : Value} (h : Z ≠ G) (j : Nat) : ((((w.setCell ⟨G, i * 4, none⟩ a).setCell ⟨G, i * 4 + 1, none⟩ b).setCell ⟨G, i * 4 + 2, none⟩ c).setCell ⟨G, i * 4 + 3, none⟩ d).cell? ⟨Z, j, none⟩ = w.cell? ⟨Z, j, none⟩ := by
  have n : ∀ m, (⟨G, m, none⟩ : Addr) ≠ ⟨Z, j, none⟩ := fun m e => h (congrArg Addr.block e).symm
  rw [World.cell?_setCell_other _ _ _ _ (n _), World.cell?_setCell_other _ _ _ _ (n _), World.cell?_setCell_other _ _ _ _ (n _), World.cell?_setCell_other _ _ _ _ (n _)]
theorem set4_keep {w : World} {Z G i : Nat} {a b c d x y z : Value} (h : Z ≠ G) (k : w.cell? ⟨Z, 0, none⟩ = some x ∧ w.cell? ⟨Z, 1, none⟩ = some y ∧ w.cell? ⟨Z, 2, none⟩ = some z) :
    ((((w.setCell ⟨G, i * 4, none⟩ a).setCell ⟨G, i * 4 + 1, none⟩ b).setCell ⟨G, i * 4 + 2, none⟩ c).setCell ⟨G, i * 4 + 3, none⟩ d).cell? ⟨Z, 0, none⟩ = some x ∧ ((((w.setCell ⟨G, i * 4, none⟩ a).setCell ⟨G, i * 4 + 1, none⟩ b).setCell ⟨G, i * 4 + 2, none⟩ c).setCell ⟨G, i * 4 + 3, none⟩ d).cell? ⟨Z, 1, none⟩ = some y ∧ ((((w.setCell ⟨G, i * 4, none⟩ a).setCell ⟨G, i * 4 + 1, none⟩ b).setCell ⟨G, i * 4 + 2, none⟩ c).setCell ⟨G, i * 4 + 3, none⟩ d).cell? ⟨Z, 2, none⟩ = some z :=
  ⟨(set4_cell h 0).trans k.1, (set4_cell h 1).trans k.2.1, (set4_cell h 2).trans k.2.2⟩
def itK (l : List Op6) (t k : Nat) : List Im := wrI (l.take k) t ++ List.replicate (l.length - k) zI
theorem itK_set (l : List Op6) (t k : Nat) (o : Op6) (h : l[k]? = some o) : (itK l t k).set k ⟨o.k, o.g, o.v, t⟩ = itK l t (k + 1) ∧ (itK l t k)[k]? = some zI := by
  have hk := (List.getElem?_eq_some_iff.1 h).1
  have hw : (wrI (l.take k) t).length = k := by simp [wrI]; omega
  have e : List.replicate (l.length - k) zI = zI :: List.replicate (l.length - (k + 1)) zI := by
    rw [show l.length - k = (l.length - (k + 1)) + 1 by omega, List.replicate_succ]
  unfold itK
  refine ⟨?_, ?_⟩
  · rw [List.set_append_right _ _ (by omega), hw, Nat.sub_self, e, List.set_cons_zero, List.take_add_one, h]
    simp [wrI]
  · rw [List.getElem?_append_right (by omega), hw, Nat.sub_self, e]
    rfl
theorem itK_len (l : List Op6) (t k : Nat) (hk : k ≤ l.length) : (itK l t k).length = l.length := by
  unfold itK wrI
  simp
  omega
set_option maxHeartbeats 1000000 in
theorem written6 (p : Option Addr) (pc : Nat) (l : List Op6) (t : Nat) (w : World) (h : OpR6 w p l) (ok : ∀ o ∈ l, o.k.length ≤ 128 ∧ o.v.length ≤ 4096) (hl : l.length ≤ 1000) :
    Calls Tryz.prog 36 #[.slice p l.length pc, .int .i64 (t : Int)] w fun e w' => ∃ G, e = .returned (.slice (some ⟨G, 0, none⟩) l.length l.length) ∧ Hid (OwnM w' (some ⟨G, 0, none⟩) l.length (wrI l t)) ∧ Hid (w.heap.size ≤ G ∧ G < w'.heap.size) ∧ Hid (Below w.heap.size w w') := by
  obtain ⟨MK, hmk, hmk2⟩ := mkI l.length (by omega)
  obtain ⟨V, hV⟩ : ∃ V, V = w.alloc (.cells MK 47) := ⟨_, rfl⟩
  obtain ⟨G, hG⟩ : ∃ G, G = w.heap.size := ⟨_, rfl⟩
  have hbV : Below w.heap.size w V := by rw [hV]; exact (Below.refl _ _).alloc (Nat.le_refl _) _
  have hoV : OwnM V (some ⟨G, 0, none⟩) l.length (itK l t 0) := by
    have : itK l t 0 = List.replicate l.length zI := by unfold itK wrI; simp
    rw [this, hV, hG]
    exact hmk2 w
  have hGV : G < V.heap.size := hoV.lt G rfl
  have HGW : Hid (w.heap.size ≤ G) := by rw [hG]; exact Nat.le_refl _
  have HOV := hide hoV
  have HBV := hide hbV
  have HGV := hide hGV
  have HH := hide h
  have HOK := hide ok
  have HCL : Hid (∀ (n : Nm) (u : World), n.length ≤ 4096 → Calls Tryz.prog 70 #[.string (str n)] u fun e w' => e = .returned (.string (str n)) ∧ Hid (Below u.heap.size u w')) := fun n u hn => (stclone_any (str n) u (by rw [str_size]; omega)).mono fun e w' q => ⟨q.1, q.2⟩
  clear h ok hmk2 hoV hbV hGV
  go_enter Tryz.func36, Tryz.ntmps36
  go_wp2_with fail
  rw [← hV, ← hG]
  clear hV hG hmk
  go_loopw [13] (fun i wr => ∃ k : Nat, k ≤ l.length ∧ i = .int .i64 (k : Int) ∧ Hid (OwnM wr (some ⟨G, 0, none⟩) l.length (itK l t k)) ∧ Hid (Below w.heap.size w wr)) (fun i _ => l.length - (intOf i).toNat)
  case atStart => exact ⟨0, Nat.zero_le _, rfl, HOV, HBV⟩
  case round =>
    clear HOV HBV
    obtain ⟨k, hk, rfl, HO, HB⟩ := hrel
    by_cases hlt : k < l.length
    · have hlt' : (k : Int) < (l.length : Int) := by omega
      obtain ⟨o, ho⟩ : ∃ o, l[k]? = some o := ⟨_, List.getElem?_eq_getElem hlt⟩
      obtain ⟨b, off, rfl, hc⟩ := (unhide HH).mem (by intro e; subst e; simp at ho)
      obtain ⟨c0, c1, c2⟩ := hc k o ho
      have kk : ∀ {q : Addr} {v : Value}, w.cell? q = some v → wr.cell? q = some v := fun {q v} e => by
        rw [(unhide HB).cell (World.block_lt_of_cell? w _ e)]; exact e
      have k0 := kk c0
      have k1 := kk c1
      have k2 := kk c2
      obtain ⟨W, hW⟩ : ∃ W, W = wr.alloc (.cells #[.string (str o.k), .bool o.g, .string (str o.v)] 55) := ⟨_, rfl⟩
      obtain ⟨Z, hZ⟩ : ∃ Z, Z = wr.heap.size := ⟨_, rfl⟩
      have hbW : Below wr.heap.size wr W := by rw [hW]; exact (Below.refl _ _).alloc (Nat.le_refl _) _
      have hZG : Z ≠ G := by rw [hZ]; exact fun e => Nat.lt_irrefl _ (e ▸ (unhide HO).lt G rfl)
      have hrW : W.heap[Z]? = some (.cells #[.string (str o.k), .bool o.g, .string (str o.v)] 55 (0, 0)) := by rw [hZ, hW]; exact heap_alloc_new _ _
      have d0 : W.cell? ⟨Z, 0, none⟩ = some (.string (str o.k)) := cell_of_row _ _ _ _ _ _ hrW
      have d1 : W.cell? ⟨Z, 1, none⟩ = some (.bool o.g) := cell_of_row _ _ _ _ _ _ hrW
      have d2 : W.cell? ⟨Z, 2, none⟩ = some (.string (str o.v)) := cell_of_row _ _ _ _ _ _ hrW
      obtain ⟨okk, okv⟩ := unhide HOK o (List.mem_of_getElem? ho)
      obtain ⟨hset, hz⟩ := itK_set l t k o ho
      have HSET := hide hset
      have HZ0 := hide hz
      have HBW : Hid (Below w.heap.size w W) := (unhide HB).trans (hbW.mono (unhide HB).size)
      have HOW : Hid (OwnM W (some ⟨G, 0, none⟩) l.length (itK l t k)) := (unhide HO).same (fun j hj => hbW.block j ((unhide HO).lt j hj))
      clear kk c0 c1 c2 hc hbW hrW HB HO ho hset hz
      go_upto_region 5 with fail
      rw [← hW, ← hZ]
      clear hW hZ k0 k1 k2
      have HST : Hid (∀ u, Below W.heap.size W u → (u.cell? ⟨Z, 0, none⟩ = some (.string (str o.k)) ∧ u.cell? ⟨Z, 1, none⟩ = some (.bool o.g) ∧ u.cell? ⟨Z, 2, none⟩ = some (.string (str o.v)))) := fun u hb => by
        have e : ∀ {q : Addr} {v : Value}, W.cell? q = some v → u.cell? q = some v := fun {q v} e => by
          rw [hb.cell (World.block_lt_of_cell? W _ e)]; exact e
        exact ⟨e d0, e d1, e d2⟩
      have HGC : Hid (∀ u, Below W.heap.size W u → OwnM u (some ⟨G, 0, none⟩) l.length (itK l t k) ∧ u.cell? ⟨G, k * 4, none⟩ = some (.string (str [])) ∧ u.cell? ⟨G, k * 4 + 1, none⟩ = some (.bool false) ∧ u.cell? ⟨G, k * 4 + 2, none⟩ = some (.string (str [])) ∧ u.cell? ⟨G, k * 4 + 3, none⟩ = some (.int .i64 0) ∧ ∀ j, u.frozen? ⟨G, j, none⟩ = false) := fun u hb => by
        have hu : OwnM u (some ⟨G, 0, none⟩) l.length (itK l t k) := (unhide HOW).same (fun j hj => hb.block j ((unhide HOW).lt j hj))
        obtain ⟨g9, hg9, q0, q1, q2, q3, qf⟩ := hu.at (unhide HZ0)
        obtain rfl : G = g9 := by simpa using hg9
        exact ⟨hu, q0, q1, q2, q3, qf⟩
      go_region_held3 (fun w' => w'.cell? ⟨Z, 0, none⟩ = some (.string (str o.k)) ∧ w'.cell? ⟨Z, 1, none⟩ = some (.bool o.g) ∧ w'.cell? ⟨Z, 2, none⟩ = some (.string (str o.v))) (first | with_reducible exact kB | with_reducible exact kB.1 | with_reducible exact kB.2.1 | with_reducible exact kB.2.2 | with_reducible exact kA | with_reducible exact kA.1 | with_reducible exact kA.2.1 | with_reducible exact kA.2.2 | with_reducible exact (unhide HST _ (Below.refl _ _).drew) | with_reducible exact (unhide HST _ (Below.refl _ _).drew).1 | with_reducible exact (unhide HST _ (Below.refl _ _).drew).2.1 | with_reducible exact (unhide HST _ (Below.refl _ _).drew).2.2 | with_reducible exact (set4_cell hZG _).trans kB.1 | with_reducible exact (set4_cell hZG _).trans kB.2.1 | with_reducible exact (set4_cell hZG _).trans kB.2.2 | with_reducible exact set4_keep hZG kB | exact set4_keep hZG kB) ((first
        | (have hh := HBA; clear hh; go_at_call 70; (first | refine (unhide HCL o.v _ okv).mono ?_ | refine (unhide HCL o.k _ (by omega)).mono ?_); rintro e w3 ⟨rfl, HB3⟩; have HBB : Hid (Below W.heap.size W w3) := (unhide HBA).trans ((unhide HB3).mono (unhide HBA).size); have kB := unhide HST _ (unhide HBB); obtain ⟨_, g0, g1, g2, g3, gz⟩ := unhide HGC _ (unhide HBB); have z0 := gz (k * 4); have z1 := gz (k * 4 + 1); have z2 := gz (k * 4 + 2); have z3 := gz (k * 4 + 3))
        | (go_at_call 70; (first | refine (unhide HCL o.k _ (by omega)).mono ?_ | refine (unhide HCL o.v _ okv).mono ?_); rintro e w2 ⟨rfl, HB2⟩; have HBA : Hid (Below W.heap.size W w2) := (Below.refl _ _).drew.trans ((unhide HB2).mono (Nat.le_refl _)); have kA := unhide HST _ (unhide HBA))))
      obtain ⟨U9, hU⟩ : ∃ U9, U9 = ((((w3.setCell ⟨G, k * 4, none⟩ (.string (str o.k))).setCell ⟨G, k * 4 + 1, none⟩ (.bool o.g)).setCell ⟨G, k * 4 + 2, none⟩ (.string (str o.v))).setCell ⟨G, k * 4 + 3, none⟩ (.int .i64 (t : Int))) := ⟨_, rfl⟩
      rw [← hU]
      have HOU : Hid (OwnM U9 (some ⟨G, 0, none⟩) l.length (itK l t (k + 1))) := by
        show OwnM _ _ _ _
        rw [hU, ← unhide HSET]
        exact (unhide HGC _ (unhide HBB)).1.set4 k zI ⟨o.k, o.g, o.v, t⟩ (unhide HZ0)
      have HBU : Hid (Below w.heap.size w U9) := by
        show Below _ _ _
        rw [hU]
        have b0 : Below w.heap.size w w3 := (unhide HBW).trans ((unhide HBB).mono (unhide HBW).size)
        have hs := Nat.le_refl w.heap.size
        exact below_set (below_set (below_set (below_set b0 _ _ (unhide HGW) hs) _ _ (unhide HGW) hs) _ _ (unhide HGW) hs) _ _ (unhide HGW) hs
      clear hU kB kA g0 g1 g2 g3 gz z0 z1 z2 z3 HBB HB3 HB2 HBA
      go_wp2_with fail
      go_roundw
      case rel => exact ⟨k + 1, by omega, by go_num, HOU, HBU⟩
      case measure => simp [intOf]; omega
    · obtain rfl : k = l.length := by omega
      have HOF : Hid (OwnM wr (some ⟨G, 0, none⟩) l.length (wrI l t)) := by
        show OwnM _ _ _ _
        have := unhide HO
        unfold itK at this
        rw [List.take_length, Nat.sub_self, List.replicate_zero, List.append_nil] at this
        exact this
      have HGL : Hid (w.heap.size ≤ G ∧ G < wr.heap.size) := ⟨unhide HGW, (unhide HO).lt G rfl⟩
      go_wp2_with fail
      go_ret
      exact ⟨G, rfl, HOF, HGL, HB⟩
#print axioms written6
end Go.Proofs.YtmcgghjeocnpnaaGreatDoor
end
section
set_option linter.unusedVariables false
set_option maxRecDepth 1000000
namespace Go.Proofs.YtmcgghjeocnpnaaGreatDoor
open Go.RowKit Go.Maps

def X3 (t : Tg) : Prop := t = .d 3 ∨ t = .l 3
structure WrR (w w' : World) (g : Nat → Tg) (R o bm : Nat) (cs : Array Value) (T : TypeId) (f : Its) (cnt : Nat) (l : List Im) (t : Nat) : Prop where
  im : IM w' bm (f.put l) (cnt + l.length)
  st : St w w' g g X3
  row : w'.heap[R]? = some (.cells (cs.setIfInBounds (o + 1) (.int .i64 (t : Int))) T (0, 0))
set_option maxHeartbeats 1000000 in
theorem write6 (g : Nat → Tg) (R o bm : Nat) (cs : Array Value) (T : TypeId) (f : Its) (cnt : Nat) (p : Option Addr) (pc : Nat) (l : List Im) (t v : Nat) (w : World) (hrow : w.heap[R]? = some (.cells cs T (0, 0))) (h0c : cs[o]? = some (.map (some bm))) (h1c : cs[o + 1]? = some (.int .i64 (v : Int))) (him : IM w bm f cnt) (hit : OwnM w p pc l) (hne : ∀ k, blk p = some k → k ≠ bm ∧ k ≠ R) (hRb : R ≠ bm) (hgR : g R = .d 3) (hgb : g bm = .l 3) (hl : l.length ≤ 1000000) (hc : cnt + l.length ≤ 1000000000) (hk : ∀ x ∈ l, x.k.length ≤ 128) :
    Calls Tryz.prog 38 #[.pointer (some ⟨R, o, none⟩), .int .i64 (t : Int), .slice p l.length pc] w fun e w' => e = .returned (.tuple #[]) ∧ Hid (WrR w w' g R o bm cs T f cnt l t) := by
  have h0 : w.cell? ⟨R, o, none⟩ = some (.map (some bm)) := (cell_of_row _ _ _ _ _ _ hrow).trans h0c
  have h1 : w.cell? ⟨R, o + 1, none⟩ = some (.int .i64 (v : Int)) := (cell_of_row _ _ _ _ _ _ hrow).trans h1c
  have h2 : w.frozen? ⟨R, o + 1, none⟩ = false := frozen_of_row _ _ _ _ _ hrow
  have HRW := hide hrow
  clear hrow h0c h1c
  have HIM := hide him
  have HIT := hide hit
  have HNE := hide hne
  have HK := hide hk
  have hbl := him.lt
  have hRl : R < w.heap.size := World.block_lt_of_cell? w _ h0
  have HBL := hide hbl
  clear him hit hne hk hbl
  go_enter Tryz.func38, Tryz.ntmps38
  go_wp2_with fail
  go_loopw [10] (fun i wr => ∃ k : Nat, k ≤ l.length ∧ i = .int .i64 (k : Int) ∧ Hid (IM wr bm (f.put (l.take k)) (cnt + k)) ∧ Hid (St w wr g g X3) ∧ Hid (wr.heap[R]? = w.heap[R]?) ∧ Hid (OwnM wr p pc l)) (fun i _ => l.length - (intOf i).toNat)
  case atStart => exact ⟨0, Nat.zero_le _, rfl, HIM, St.refl _ _ _, rfl, HIT⟩
  case round =>
    clear HIM HIT
    obtain ⟨k, hk, rfl, HI, HS, HR, HO⟩ := hrel
    have r0 : wr.cell? ⟨R, o, none⟩ = some (.map (some bm)) := by rw [World.cell?_of_block (w := w) (unhide HR)]; exact h0
    have r1 : wr.cell? ⟨R, o + 1, none⟩ = some (.int .i64 (v : Int)) := by rw [World.cell?_of_block (w := w) (unhide HR)]; exact h1
    have r2 : wr.frozen? ⟨R, o + 1, none⟩ = false := by rw [World.frozen?_of_block (w := w) (unhide HR)]; exact h2
    by_cases hlt : k < l.length
    · have hlt' : (k : Int) < (l.length : Int) := by omega
      obtain ⟨x, hx⟩ : ∃ x, l[k]? = some x := ⟨_, List.getElem?_eq_getElem hlt⟩
      obtain ⟨G, rfl, c0, c1, c2, c3, cf⟩ := (unhide HO).at hx
      have hxk := unhide HK x (List.mem_of_getElem? hx)
      obtain ⟨W, hW⟩ : ∃ W, W = wr.alloc (.cells #[.string (str x.k), .bool x.g, .string (str x.v), .int .i64 (x.t : Int)] 47) := ⟨_, rfl⟩
      obtain ⟨Z, hZ⟩ : ∃ Z, Z = wr.heap.size := ⟨_, rfl⟩
      have hbW : Below wr.heap.size wr W := by rw [hW]; exact (Below.refl _ _).alloc (Nat.le_refl _) _
      have hrW : W.heap[Z]? = some (.cells #[.string (str x.k), .bool x.g, .string (str x.v), .int .i64 (x.t : Int)] 47 (0, 0)) := by rw [hZ, hW]; exact heap_alloc_new _ _
      have d0 : W.drew.cell? ⟨Z, 0, none⟩ = some (.string (str x.k)) := cell_of_row _ _ _ _ _ _ hrW
      have d1 : W.drew.cell? ⟨Z, 1, none⟩ = some (.bool x.g) := cell_of_row _ _ _ _ _ _ hrW
      have d2 : W.drew.cell? ⟨Z, 2, none⟩ = some (.string (str x.v)) := cell_of_row _ _ _ _ _ _ hrW
      have d3 : W.drew.cell? ⟨Z, 3, none⟩ = some (.int .i64 (x.t : Int)) := cell_of_row _ _ _ _ _ _ hrW
      have hRZ : R < wr.heap.size := Nat.lt_of_lt_of_le hRl (unhide HS).size
      have d4 : W.drew.cell? ⟨R, o, none⟩ = some (.map (some bm)) := by
        rw [World.cell?_of_block (w := wr) (w' := W.drew) (hbW.block R hRZ)]; exact r0
      have hIW : IM W.drew bm (f.put (l.take k)) (cnt + k) := (unhide HI).same (hbW.block bm (unhide HI).lt)
      obtain ⟨w3, hup0, hI3, hg3⟩ := hIW.put x.k (by unfold maxLen; omega) (by unfold maxLen; omega) x
      have hup : (Instr.mapUpdate 49 (.map (some bm)) (.string (str x.k)) (.agg #[.string (str x.k), .bool x.g, .string (str x.v), .int .i64 (x.t : Int)])).run Tryz.prog W.drew = .ok () w3 := hup0
      have hZb : Z ≠ bm := by rw [hZ]; exact fun e => Nat.lt_irrefl _ (e ▸ (unhide HI).lt)
      have hZW : Z < W.heap.size := (Array.getElem?_eq_some_iff.1 hrW).1
      have kz : ∀ j, w3.cell? ⟨Z, j, none⟩ = W.drew.cell? ⟨Z, j, none⟩ := fun j => World.cell?_of_block (w := W.drew) (hg3.block Z hZW (fun e => hZb (Option.some.inj e)))
      have kr : ∀ j, w3.cell? ⟨R, j, none⟩ = W.drew.cell? ⟨R, j, none⟩ := fun j => World.cell?_of_block (w := W.drew) (hg3.block R (Nat.lt_of_lt_of_le hRZ hbW.size) (fun e => hRb (Option.some.inj e)))
      have e0 := (kz 0).trans d0
      have e1 := (kz 1).trans d1
      have e2 := (kz 2).trans d2
      have e3 := (kz 3).trans d3
      have e4 := (kr o).trans d4
      have HI3 : Hid (IM w3 bm (f.put (l.take (k + 1))) (cnt + (k + 1))) := by
        show IM _ _ _ _
        rw [List.take_add_one, hx]
        show IM _ _ (f.put (l.take k ++ [x])) _
        rw [Its.put_snoc]
        exact hI3
      have HS3 : Hid (St w w3 g g X3) := (unhide HS).trans ((St.ofBelow g _ hbW.drew).trans (St.ofG hg3 (fun j hj => by rw [← Option.some.inj hj, hgb]; exact .inr rfl)))
      have HR3 : Hid (w3.heap[R]? = w.heap[R]?) := ((hg3.block R (Nat.lt_of_lt_of_le hRZ hbW.size) (fun e => hRb (Option.some.inj e))).trans (hbW.block R hRZ)).trans (unhide HR)
      have HO3 : Hid (OwnM w3 (some ⟨G, 0, none⟩) pc l) := (unhide HO).same (fun j hj => (hg3.block j (Nat.lt_of_lt_of_le ((unhide HO).lt j hj) hbW.size) (fun e => (unhide HNE j hj).1 (Option.some.inj e))).trans (hbW.block j ((unhide HO).lt j hj)))
      clear hup0 hI3 hg3 hIW hbW hrW kz kr HI HS HR HO hx cf HNE HK
      go_upto_region 3 with fail
      rw [← hW, ← hZ]
      clear hW hZ c0 c1 c2 c3 r0 r1 r2
      go_region_held3 (fun w' => w'.cell? ⟨R, o, none⟩ = some (.map (some bm)) ∧ w'.cell? ⟨Z, 0, none⟩ = some (.string (str x.k)) ∧ w'.cell? ⟨Z, 1, none⟩ = some (.bool x.g) ∧ w'.cell? ⟨Z, 2, none⟩ = some (.string (str x.v)) ∧ w'.cell? ⟨Z, 3, none⟩ = some (.int .i64 (x.t : Int))) (first | with_reducible exact d0 | with_reducible exact d1 | with_reducible exact d2 | with_reducible exact d3 | with_reducible exact d4 | with_reducible exact ⟨d4, d0, d1, d2, d3⟩ | with_reducible exact ⟨e4, e0, e1, e2, e3⟩) (fail)
      clear d0 d1 d2 d3 d4 e0 e1 e2 e3 e4 hup
      go_wp2_with fail
      go_roundw
      case rel => exact ⟨k + 1, by omega, by go_num, HI3, HS3, HR3, HO3⟩
      case measure => simp [intOf]; omega
    · obtain rfl : k = l.length := by omega
      obtain ⟨w4, hw4⟩ : ∃ w4, w4 = wr.setCell ⟨R, o + 1, none⟩ (.int .i64 (t : Int)) := ⟨_, rfl⟩
      have HF : Hid (WrR w w4 g R o bm cs T f cnt l t) := by
        have hg4 : wr.grownBy w4 (some R) := by rw [hw4]; exact grownBy_setCell wr ⟨R, o + 1, none⟩ _
        refine ⟨?_, ?_, ?_⟩
        · have hi := unhide HI
          rw [List.take_length] at hi
          exact hi.same (hg4.block bm hi.lt (fun e => hRb (Option.some.inj e).symm))
        · exact (unhide HS).trans (St.ofG hg4 (fun j hj => by rw [← Option.some.inj hj, hgR]; exact .inl rfl))
        · rw [hw4]
          exact heap_setCell_same _ _ _ _ _ _ ((unhide HR).trans (unhide HRW))
      clear HI HS HR HO
      go_wp2_with fail
      rw [← hw4]
      go_end0
      exact ⟨rfl, HF⟩
#print axioms write6
end Go.Proofs.YtmcgghjeocnpnaaGreatDoor
end
section
set_option linter.unusedVariables false
set_option maxRecDepth 1000000
namespace Go.Proofs.YtmcgghjeocnpnaaGreatDoor
open Go.RowKit Go.Maps

set_option maxHeartbeats 1000000 in
theorem lastSnap0 (a : Option Addr) (c : Nat) (w : World) : Calls Tryz.prog 75 #[.slice a 0 c] w fun e w' => e = .returned (.int .i64 (-1)) ∧ w' = w := by
  go_enter Tryz.func75, Tryz.ntmps75
  go_wp2_with fail
  go_loopw [4, 9] (fun b i wr => b = .int .i64 (-1) ∧ i = .int .i64 0 ∧ wr = w) (fun b i _ => 0)
  case atStart => exact ⟨rfl, rfl, rfl⟩
  case round =>
    obtain ⟨rfl, rfl, rfl⟩ := hrel
    go_wp2_with fail
    go_ret
    exact ⟨rfl, rfl⟩
theorem run_mkmap7 (z : Int) (w : World) : (Instr.makeMap 49 (some (.int .i64 z))).run Tryz.prog w = .ok (.map (some w.heap.size)) (w.alloc (.map #[] 0)) := by
  simp [Instr.makeMap, run_underlying Tryz.underlying49, asInt, asIntOf, go_sem]
/-- A state that has nothing. -/
structure S0 (w w' : World) (m : Nat) : Prop where
  im : IM w' m (fun _ => none) 0
  ge : w.heap.size ≤ m
  bel : Below w.heap.size w w'
set_option maxHeartbeats 1000000 in
theorem stateOf0 (w : World) : Calls Tryz.prog 76 #[.int .i64 0, .slice none 0 0] w fun e w' => ∃ m, e = .returned (.agg #[.map (some m), .int .i64 0]) ∧ Hid (S0 w w' m) := by
  have hmm := run_mkmap7 0
  obtain ⟨V, hV⟩ : ∃ V, V = ((w.alloc (.cells #[.map none, .int .i64 0] 69)).alloc (.map #[] 0)).alloc (.cells #[.map (some (w.heap.size + 1)), .int .i64 0] 69) := ⟨_, rfl⟩
  go_enter Tryz.func76, Tryz.ntmps76
  go_upto_region 2 with fail
  rw [← hV]
  obtain ⟨r0, hr0⟩ : ∃ r0, r0 = w.heap.size := ⟨_, rfl⟩
  obtain ⟨m, hm⟩ : ∃ m, m = w.heap.size + 1 := ⟨_, rfl⟩
  obtain ⟨R, hR⟩ : ∃ R, R = m + 1 := ⟨_, rfl⟩
  rw [← hm] at hV ⊢
  have hne : R ≠ m ∧ R ≠ r0 ∧ m ≠ r0 ∧ w.heap.size ≤ r0 ∧ w.heap.size ≤ m ∧ w.heap.size ≤ R := by omega
  have hbV : Below w.heap.size w V := by rw [hV]; exact (((Below.refl _ _).alloc (Nat.le_refl _) _).alloc (by simp) _).alloc (by simp; omega) _
  obtain ⟨W1, hW1⟩ : ∃ W1, W1 = w.alloc (.cells #[.map none, .int .i64 0] 69) := ⟨_, rfl⟩
  obtain ⟨W2, hW2⟩ : ∃ W2, W2 = W1.alloc (.map #[] 0) := ⟨_, rfl⟩
  have hs1 : W1.heap.size = m := by rw [hW1, hm]; simp
  have hs2 : W2.heap.size = R := by rw [hW2, hR]; simp [hs1]
  have b2 : Below W1.heap.size W1 W2 := by rw [hW2]; exact (Below.refl _ _).alloc (Nat.le_refl _) _
  rw [← hW1, ← hW2] at hV
  have b3 : Below W2.heap.size W2 V := by rw [hV]; exact (Below.refl _ _).alloc (Nat.le_refl _) _
  have hrR : V.heap[R]? = some (.cells #[.map (some m), .int .i64 0] 69 (0, 0)) := by rw [hV, ← hs2]; exact heap_alloc_new _ _
  have hr1 : W1.heap[r0]? = some (.cells #[.map none, .int .i64 0] 69 (0, 0)) := by rw [hW1, hr0]; exact heap_alloc_new _ _
  have hr0V : V.heap[r0]? = some (.cells #[.map none, .int .i64 0] 69 (0, 0)) := by
    rw [b3.block r0 (by rw [hs2]; omega), b2.block r0 (by rw [hs1]; omega)]; exact hr1
  have hI : IM V m (fun _ => none) 0 := by
    have i2 : IM W2 m (fun _ => none) 0 := by rw [hW2, ← hs1]; exact IM.made _
    exact i2.same (b3.block m i2.lt)
  obtain ⟨n1, n2, n3, n4, n5, n6⟩ := hne
  obtain ⟨g, hg⟩ : ∃ g : Nat → Tg, g = fun k => if k = R then .d 3 else if k = m then .l 3 else .o := ⟨_, rfl⟩
  have gR : g R = .d 3 := by rw [hg]; simp
  have gm : g m = .l 3 := by rw [hg]; simp [Ne.symm n1]
  have HG : Hid (∀ k, k ≠ R → k ≠ m → g k = .o) := fun k h1 h2 => by rw [hg]; simp [h1, h2]
  have HW := hide (write6 g R 0 m _ _ (fun _ => none) 0 none 0 [] 0 0 V hrR rfl rfl hI (OwnM.nil V) (fun k hk => by cases hk) n1 gR gm (by simp) (by simp) (fun x hx => by cases hx))
  have HBV := hide hbV
  have HR0 := hide hr0V
  have HRl : Hid (m < V.heap.size ∧ r0 < V.heap.size) := ⟨hI.lt, (Array.getElem?_eq_some_iff.1 hr0V).1⟩
  rw [← hR, ← hr0]
  clear hR hm hr0 hW1 hW2 hs1 hs2 b2 b3 hrR hr1 hr0V hI hg hbV hV
  go_wp2_with fail
  refine (unhide HW).mono ?_
  rintro e w2 ⟨rfl, HX⟩
  have hRR : w2.heap[R]? = some (.cells #[.map (some m), .int .i64 0] 69 (0, 0)) := (unhide HX).row
  have q0 : w2.cell? ⟨R, 0, none⟩ = some (.map (some m)) := cell_of_row _ _ _ _ _ _ hRR
  have q1 : w2.cell? ⟨R, 1, none⟩ = some (.int .i64 0) := cell_of_row _ _ _ _ _ _ hRR
  have hxo : ¬ X3 .o := by rintro (h | h) <;> cases h
  have h20 : w2.heap[r0]? = some (.cells #[.map none, .int .i64 0] 69 (0, 0)) := (unhide HX).st.heap (unhide HR0) (by rw [unhide HG r0 (Ne.symm n2) (Ne.symm n3)]; exact hxo)
  have p0 : w2.cell? ⟨r0, 0, none⟩ = some (.map none) := cell_of_row _ _ _ _ _ _ h20
  have p1 : w2.cell? ⟨r0, 1, none⟩ = some (.int .i64 0) := cell_of_row _ _ _ _ _ _ h20
  have pf : ∀ j, w2.frozen? ⟨r0, j, none⟩ = false := fun j => frozen_of_row _ _ _ _ _ h20
  have pf0 := pf 0
  have pf1 := pf 1
  obtain ⟨w3, hw3⟩ : ∃ w3, w3 = (w2.setCell ⟨r0, 0, none⟩ (.map (some m))).setCell ⟨r0, 1, none⟩ (.int .i64 0) := ⟨_, rfl⟩
  have t0 : w3.cell? ⟨r0, 0, none⟩ = some (.map (some m)) := by rw [hw3]; exact cell_of_row _ _ _ _ _ _ (heap_setCell_same _ _ _ _ _ _ (heap_setCell_same _ _ _ _ _ _ h20))
  have t1 : w3.cell? ⟨r0, 1, none⟩ = some (.int .i64 0) := by rw [hw3]; exact cell_of_row _ _ _ _ _ _ (heap_setCell_same _ _ _ _ _ _ (heap_setCell_same _ _ _ _ _ _ h20))
  have HF : Hid (S0 w w3 m) := by
    have b1 : Below w.heap.size w w2 := by
      have x := (unhide HX).st
      exact x.below (unhide HBV) (unhide HBV).size (fun k hk => by rw [unhide HG k (by omega) (by omega)]; exact hxo)
    have e : w3.heap[m]? = w2.heap[m]? := by rw [hw3, Below.heap_setCell _ ⟨r0, 1, none⟩ _ m n3, Below.heap_setCell _ ⟨r0, 0, none⟩ _ m n3]
    refine ⟨(unhide HX).im.same e, n5, ?_⟩
    rw [hw3]
    exact below_set (below_set b1 _ _ n4 (Nat.le_refl _)) _ _ n4 (Nat.le_refl _)
  clear hRR h20 pf HX HW HG HBV HR0 HRl
  go_wp2_with fail
  rw [← hw3]
  clear hw3
  refine bodyPost_ret (v := .agg #[.map (some m), .int .i64 0]) (by simp [results, Tryz.results76, go_sem, t0, t1]) rfl ⟨m, rfl, HF⟩
#print axioms stateOf0
theorem cut0 (a : Option Addr) (c : Nat) (w : World) : (Instr.slice 84 (.slice a 0 c) (some (.int .i64 0)) none none).run Tryz.prog w = .ok (.slice a 0 c) w := by
  rw [run_slice_l (P := Tryz.prog) w 84 a 0 c Tryz.elemSS .i64 0 (by omega) (by omega), Tryz.sizeSS]
  cases a <;> simp [Result.andThen, sliced, Addr.add]
set_option maxHeartbeats 1000000 in
theorem recall0 (a : Option Addr) (c : Nat) (w : World) : Calls Tryz.prog 47 #[.int .i64 1, .slice a 0 c] w fun e w' => ∃ m, e = .returned (.tuple #[.agg #[.map (some m), .int .i64 0], .bool true]) ∧ Hid (S0 w w' m) := by
  have HL := hide (lastSnap0 a c)
  have hcut := cut0 a c
  go_enter Tryz.func47, Tryz.ntmps47
  go_wp2_with fail
  refine (unhide HL _).mono ?_
  rintro e w2 ⟨rfl, rfl⟩
  go_wp2_with fail
  obtain ⟨W1, hW1⟩ : ∃ W1, W1 = w.alloc (.cells #[.map none, .int .i64 0] 69) := ⟨_, rfl⟩
  obtain ⟨r0, hr0⟩ : ∃ r0, r0 = w.heap.size := ⟨_, rfl⟩
  have hr1 : W1.heap[r0]? = some (.cells #[.map none, .int .i64 0] 69 (0, 0)) := by rw [hW1, hr0]; exact heap_alloc_new _ _
  have HB1 : Hid (Below w.heap.size w W1) := by show Below _ _ _; rw [hW1]; exact (Below.refl _ _).alloc (Nat.le_refl _) _
  have n4 : Hid (w.heap.size ≤ r0 ∧ r0 < W1.heap.size) := ⟨Nat.le_of_eq hr0.symm, (Array.getElem?_eq_some_iff.1 hr1).1⟩
  have HR1 := hide hr1
  rw [← hW1, ← hr0]
  clear hW1 hr0 hr1
  refine (stateOf0 W1).mono ?_
  rintro e w3 ⟨m, rfl, HS⟩
  obtain ⟨W4, hW4⟩ : ∃ W4, W4 = w3.alloc (.cells #[.map (some m), .int .i64 0, .bool false, .slice none 0 0] 134) := ⟨_, rfl⟩
  obtain ⟨H, hH⟩ : ∃ H, H = w3.heap.size := ⟨_, rfl⟩
  have hb4 : Below w3.heap.size w3 W4 := by rw [hW4]; exact (Below.refl _ _).alloc (Nat.le_refl _) _
  have hrH : W4.heap[H]? = some (.cells #[.map (some m), .int .i64 0, .bool false, .slice none 0 0] 134 (0, 0)) := by rw [hW4, hH]; exact heap_alloc_new _ _
  have q0 : W4.cell? ⟨H, 0, none⟩ = some (.map (some m)) := cell_of_row _ _ _ _ _ _ hrH
  have q1 : W4.cell? ⟨H, 1, none⟩ = some (.int .i64 0) := cell_of_row _ _ _ _ _ _ hrH
  have hs := unhide HS
  have h40 : W4.heap[r0]? = some (.cells #[.map none, .int .i64 0] 69 (0, 0)) := by
    rw [hb4.block r0 (Nat.lt_of_lt_of_le (unhide n4).2 hs.bel.size), hs.bel.block r0 (unhide n4).2]; exact unhide HR1
  have p0 : W4.cell? ⟨r0, 0, none⟩ = some (.map none) := cell_of_row _ _ _ _ _ _ h40
  have p1 : W4.cell? ⟨r0, 1, none⟩ = some (.int .i64 0) := cell_of_row _ _ _ _ _ _ h40
  have pf : ∀ j, W4.frozen? ⟨r0, j, none⟩ = false := fun j => frozen_of_row _ _ _ _ _ h40
  have pf0 := pf 0
  have pf1 := pf 1
  obtain ⟨w5, hw5⟩ : ∃ w5, w5 = (W4.setCell ⟨r0, 0, none⟩ (.map (some m))).setCell ⟨r0, 1, none⟩ (.int .i64 0) := ⟨_, rfl⟩
  have t0 : w5.cell? ⟨r0, 0, none⟩ = some (.map (some m)) := by rw [hw5]; exact cell_of_row _ _ _ _ _ _ (heap_setCell_same _ _ _ _ _ _ (heap_setCell_same _ _ _ _ _ _ h40))
  have t1 : w5.cell? ⟨r0, 1, none⟩ = some (.int .i64 0) := by rw [hw5]; exact cell_of_row _ _ _ _ _ _ (heap_setCell_same _ _ _ _ _ _ (heap_setCell_same _ _ _ _ _ _ h40))
  have HF : Hid (S0 w w5 m) := by
    have b4 : Below w.heap.size w W4 := (unhide HB1).trans ((hs.bel.trans (hb4.mono hs.bel.size)).mono (unhide HB1).size)
    have hmr : m ≠ r0 := fun e => Nat.lt_irrefl _ (Nat.lt_of_lt_of_le (e ▸ (unhide n4).2) hs.ge)
    have e : w5.heap[m]? = W4.heap[m]? := by rw [hw5, Below.heap_setCell _ ⟨r0, 1, none⟩ _ m hmr, Below.heap_setCell _ ⟨r0, 0, none⟩ _ m hmr]
    refine ⟨(hs.im.same (hb4.block m hs.im.lt)).same e, Nat.le_trans (unhide HB1).size hs.ge, ?_⟩
    rw [hw5]
    exact below_set (below_set b4 _ _ (unhide n4).1 (Nat.le_refl _)) _ _ (unhide n4).1 (Nat.le_refl _)
  clear hs h40 pf hrH hb4 HS HL
  go_upto_region 6 with fail
  rw [← hW4, ← hH]
  clear hW4 hH
  go_wp2_with fail
  go_loopw [23] (fun i wr => i = .int .i64 0 ∧ wr = W4) (fun i _ => 0)
  case atStart => exact ⟨rfl, rfl⟩
  case round =>
    obtain ⟨rfl, rfl⟩ := hrel
    go_wp2_with fail
    rw [← hw5]
    clear hw5
    refine bodyPost_ret (v := .tuple #[.agg #[.map (some m), .int .i64 0], .bool true]) (by simp [results, Tryz.results47, go_sem, t0, t1]) rfl ⟨m, rfl, HF⟩
#print axioms recall0
end Go.Proofs.YtmcgghjeocnpnaaGreatDoor
end
