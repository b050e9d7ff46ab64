/-
  httpd's reference: an answer's head (head).
-/
import Derived.Test.YtonaekkenggmbaaGreatDoorPkHadsbn
import Derived.Test.YtonaekkenggmbaaGreatDoorPkHadsbj
section
set_option linter.unusedVariables false
set_option maxRecDepth 1000000
namespace Go.Proofs.YtonaekkenggmbaaGreatDoor
open Go.RowKit

theorem OwnH.same {w w' : World} {base : Nat} {a : Option Addr} {cap : Nat} {l : List Hd} (h : OwnH w base a cap l) (e : ∀ k, blk a = some k → w'.heap[k]? = w.heap[k]?) : OwnH w' base a cap l := by
  refine ⟨h.1, ?_⟩
  rcases h.2 with hn | ⟨b, cap, cur, hv, hbb, hgg, rest⟩
  · exact .inl hn
  · refine .inr ⟨b, cap, cur, hv, hbb, ?_, rest⟩
    have e2 : blk a = Option.some b := by simp only [Value.slice.injEq] at hv; rw [hv.1]; rfl
    exact (e b e2).trans hgg
/-- head at work: the answer lies in block g5, what is handed back in the block ahead. -/
structure HeS (w wr : World) (g5 : Nat) (s : Int) (hp : Option Addr) (hc : Nat) (H : List Hd) : Prop where
  rt : wr.heap[w.heap.size]? = some (.cells #[.int .i64 0, .slice none 0 0, .slice none 0 0] 58 (0, 0))
  an : wr.heap[g5]? = some (.cells #[.int .i64 s, .slice hp H.length hc, .slice none 0 0] 58 (0, 0))
  ow : OwnH wr (g5 + 1) hp hc H
  gt : w.heap.size < g5
  bl : Below w.heap.size w wr
theorem HeS.lt {w wr : World} {g5 : Nat} {s : Int} {hp : Option Addr} {hc : Nat} {H : List Hd} (h : HeS w wr g5 s hp hc H) : g5 < wr.heap.size := (Array.getElem?_eq_some_iff.1 h.an).1
theorem HeS.below {w wr w' : World} {g5 : Nat} {s : Int} {hp : Option Addr} {hc : Nat} {H : List Hd} (h : HeS w wr g5 s hp hc H) (hb : Below wr.heap.size wr w') : HeS w w' g5 s hp hc H :=
  ⟨(hb.block _ (Array.getElem?_eq_some_iff.1 h.rt).1).trans h.rt, (hb.block _ h.lt).trans h.an, h.ow.below hb (Nat.le_refl _), h.gt, h.bl.trans (hb.mono h.bl.size)⟩
theorem HeS.drew {w wr : World} {g5 : Nat} {s : Int} {hp : Option Addr} {hc : Nat} {H : List Hd} (h : HeS w wr g5 s hp hc H) : HeS w wr.drew g5 s hp hc H := h.below ((Below.refl _ _).drew)
theorem HeS.cells {w wr : World} {g5 : Nat} {s : Int} {hp : Option Addr} {hc : Nat} {H : List Hd} (h : HeS w wr g5 s hp hc H) :
    wr.cell? ⟨w.heap.size, 0, none⟩ = some (.int .i64 0) ∧ wr.cell? ⟨w.heap.size, 1, none⟩ = some (.slice none 0 0) ∧ wr.cell? ⟨w.heap.size, 2, none⟩ = some (.slice none 0 0) ∧ wr.frozen? ⟨w.heap.size, 0, none⟩ = false ∧ wr.frozen? ⟨w.heap.size, 1, none⟩ = false ∧ wr.frozen? ⟨w.heap.size, 2, none⟩ = false ∧ wr.cell? ⟨g5, 0, none⟩ = some (.int .i64 s) ∧ wr.cell? ⟨g5, 1, none⟩ = some (.slice hp H.length hc) ∧ wr.cell? ⟨g5, 2, none⟩ = some (.slice none 0 0) :=
  ⟨cell_of_row _ _ _ _ _ _ h.rt, cell_of_row _ _ _ _ _ _ h.rt, cell_of_row _ _ _ _ _ _ h.rt, frozen_of_row _ _ _ _ _ h.rt, frozen_of_row _ _ _ _ _ h.rt, frozen_of_row _ _ _ _ _ h.rt, cell_of_row _ _ _ _ _ _ h.an, cell_of_row _ _ _ _ _ _ h.an, cell_of_row _ _ _ _ _ _ h.an⟩
theorem HeS.ret {w wr : World} {g5 : Nat} {s : Int} {hp : Option Addr} {hc : Nat} {H : List Hd} (h : HeS w wr g5 s hp hc H) :
    let X := ((wr.setCell ⟨w.heap.size, 0, none⟩ (.int .i64 s)).setCell ⟨w.heap.size, 1, none⟩ (.slice hp H.length hc)).setCell ⟨w.heap.size, 2, none⟩ (.slice none 0 0)
    X.cell? ⟨w.heap.size, 0, none⟩ = some (.int .i64 s) ∧ X.cell? ⟨w.heap.size, 1, none⟩ = some (.slice hp H.length hc) ∧ X.cell? ⟨w.heap.size, 2, none⟩ = some (.slice none 0 0) ∧ Below w.heap.size w X ∧ (HdR X hp H ∧ ∀ k, blk hp = some k → w.heap.size ≤ k ∧ k < X.heap.size) := by
  intro X
  obtain ⟨s1, s2, s3⟩ := set3a wr w.heap.size _ _ _ (.int .i64 s) (.slice hp H.length hc) (.slice none 0 0) _ h.rt
  have hz : X.heap.size = wr.heap.size := by simp [X, World.setCell]
  have hk : ∀ k, blk hp = some k → w.heap.size < k := fun k hk => by have := (h.ow.lt k hk).1; have := h.gt; omega
  exact ⟨cell_of_row _ _ _ _ _ _ s1, cell_of_row _ _ _ _ _ _ s1, cell_of_row _ _ _ _ _ _ s1, s3 w _ h.bl (Nat.le_refl _), h.ow.hdR.same (fun k e _ => s2 k (Nat.ne_of_gt (hk k e))), fun k e => ⟨Nat.le_of_lt (hk k e), by rw [hz]; exact (h.ow.lt k e).2⟩⟩
theorem HeS.status {w wr : World} {g5 : Nat} {s : Int} {hp : Option Addr} {hc : Nat} {H : List Hd} (h : HeS w wr g5 s hp hc H) (t : Int) : HeS w (wr.setCell ⟨g5, 0, none⟩ (.int .i64 t)) g5 t hp hc H := by
  have hk : ∀ k, k ≠ g5 → (wr.setCell ⟨g5, 0, none⟩ (.int .i64 t)).heap[k]? = wr.heap[k]? := fun k hk => Below.heap_setCell _ ⟨g5, 0, none⟩ _ k hk
  refine ⟨(hk _ (Nat.ne_of_lt h.gt)).trans h.rt, by rw [heap_setCell_same _ _ 0 _ _ _ h.an]; rfl, h.ow.same (fun k e => hk k (by have := (h.ow.lt k e).1; omega)), h.gt, ?_⟩
  exact ⟨h.bl.os, h.bl.tape, h.bl.output, by simp [World.setCell]; exact h.bl.size, fun k e => (hk k (by have := h.gt; omega)).trans (h.bl.block k e)⟩
theorem hea_b1 (w : World) (o : Obj) : Below w.heap.size w (w.alloc o).drew := ((Below.refl _ _).alloc (Nat.le_refl _) _).drew
theorem hea_c0 (w : World) (m t : List UInt8) : (w.alloc (.cells #[.string (str m), .string (str t)] 49)).drew.cell? ⟨w.heap.size, 0, none⟩ = some (.string (str m)) := by
  show (w.alloc (.cells #[.string (str m), .string (str t)] 49)).cell? _ = _
  rw [cell_of_row _ _ _ _ _ _ (heap_alloc_new w _)]; rfl
theorem hea_c1 (w : World) (m t : List UInt8) : (w.alloc (.cells #[.string (str m), .string (str t)] 49)).drew.cell? ⟨w.heap.size, 1, none⟩ = some (.string (str t)) := by
  show (w.alloc (.cells #[.string (str m), .string (str t)] 49)).cell? _ = _
  rw [cell_of_row _ _ _ _ _ _ (heap_alloc_new w _)]; rfl
theorem hea_z {w : World} {g : Nat} (h : g < w.heap.size) (o : Obj) : g + 1 ≤ (w.alloc o).drew.heap.size := by have := (hea_b1 w o).size; omega
theorem HeS.an2 {w w6 w' : World} {g5 : Nat} {s : Int} {hp : Option Addr} {hc : Nat} {H : List Hd} {o : Obj} (h : HeS w w6 g5 s hp hc H) (hg : (w6.alloc o).drew.grownBy w' (blk hp)) : ∀ k, k < g5 + 1 → w'.heap[k]? = w6.heap[k]? := fun k hk => by
  have hlt := h.lt
  have hz := (hea_b1 w6 o).size
  refine (hg.block k (by omega) (fun e => ?_)).trans ((hea_b1 w6 o).block k (by omega))
  have := (h.ow.lt k e.symm).1
  omega
theorem HeS.app {w w6 w' : World} {g5 : Nat} {s : Int} {hp a' : Option Addr} {hc c' : Nat} {H r' : List Hd} {o : Obj} (h : HeS w w6 g5 s hp hc H) (hg : (w6.alloc o).drew.grownBy w' (blk hp)) (ho : OwnH w' (g5 + 1) a' c' r') : HeS w (w'.setCell ⟨g5, 1, none⟩ (.slice a' r'.length c')) g5 s a' c' r' := by
  have hk : ∀ k, k ≠ g5 → (w'.setCell ⟨g5, 1, none⟩ (.slice a' r'.length c')).heap[k]? = w'.heap[k]? := fun k hk => Below.heap_setCell _ ⟨g5, 1, none⟩ _ k hk
  have h2 := h.an2 hg
  have hgt := h.gt
  have hb : Below w.heap.size w w' := ⟨(hg.os.trans (hea_b1 w6 o).os).trans h.bl.os, (hg.tape.trans (hea_b1 w6 o).tape).trans h.bl.tape, (hg.output.trans (hea_b1 w6 o).output).trans h.bl.output, Nat.le_trans h.bl.size (Nat.le_trans (hea_b1 w6 o).size hg.size), fun k e => (h2 k (by omega)).trans (h.bl.block k e)⟩
  refine ⟨(hk _ (by omega)).trans ((h2 _ (by omega)).trans h.rt), by rw [heap_setCell_same _ _ 1 _ _ _ ((h2 g5 (by omega)).trans h.an)]; rfl, ho.same (fun k e => hk k (by have := (ho.lt k e).1; omega)), hgt, ?_⟩
  exact ⟨hb.os, hb.tape, hb.output, by simp [World.setCell]; exact hb.size, fun k e => (hk k (by omega)).trans (hb.block k e)⟩
theorem re_range (v : Int) (h : reM v ≠ []) : 100 ≤ v ∧ v < 600 := by
  obtain ⟨j, hj, rfl⟩ := reF_lt v 18 0 rfl h
  have : ∀ j, j < 18 → 100 ≤ rcd.getD j 0 ∧ rcd.getD j 0 < 600 := by decide +kernel
  have := this j hj
  omega
set_option maxHeartbeats 8000000 in
theorem rhead8 (hd l0 : List UInt8) (rest : List (List UInt8)) (b c : Nat) (w : World) (hsp : Lib.split hd [13, 10] = l0 :: rest) (hN : NsO w (some ⟨b, 0, none⟩) (l0 :: rest)) (hc0 : rest.length + 1 ≤ c) (hrl : rest.length ≤ 1000000) (hx : ∀ x ∈ l0 :: rest, x.length ≤ 1000000) :
    Calls Tryz.prog 67 #[.slice (some ⟨b, 0, none⟩) (rest.length + 1) c] w (RaP hd w) := by
  have HSP := hide hsp
  obtain ⟨L, hL⟩ : ∃ L, L = l0 :: rest := ⟨_, rfl⟩
  have hLl : L.length = rest.length + 1 := by rw [hL]; rfl
  obtain ⟨at1, ht1, ht2⟩ := tail1 b c L (by omega) (by omega)
  have hdr : L.drop 1 = rest := by rw [hL]; rfl
  rw [hdr] at ht1 ht2
  rw [← hLl]
  rw [← hL] at hN
  have HXX : Hid (∀ x ∈ rest, x.length ≤ 1000000) := fun x h => hx x (by simp [h])
  have HL0 : Hid (l0.length ≤ 1000000) := hx l0 (by simp)
  obtain ⟨cr, hcr⟩ : ∃ cr, cr = c - 1 := ⟨_, rfl⟩
  obtain ⟨m, hm⟩ : ∃ m, m = rest.length := ⟨_, rfl⟩
  have ht1' : ∀ w, (Instr.slice 85 (.slice (some ⟨b, 0, none⟩) L.length c) (some (.int .i64 1)) none none).run Tryz.prog w = .ok (.slice at1 m cr) w := fun w => by rw [hm, hcr]; exact ht1 w
  have HT2 : Hid (∀ w, NsO w (some ⟨b, 0, none⟩) L → NsO w at1 rest) := ht2
  have HD0 : Hid (∀ w, NsO w (some ⟨b, 0, none⟩) L → w.cell? ⟨b, 0, none⟩ = some (.string (str l0))) := fun w h => by
    obtain ⟨b', off, he, hcl⟩ := h.mem (by rw [hL]; simp)
    simp only [Option.some.injEq, Addr.mk.injEq, and_true] at he
    obtain ⟨rfl, rfl⟩ := he
    have := hcl 0 l0 (by rw [hL]; rfl)
    simpa using this
  have hpos : (0 : Int) < (L.length : Int) := by omega
  have hone : (1 : Int) ≤ (L.length : Int) := by omega
  have hL1 : 1 ≤ L.length := by omega
  have hLp : 0 < L.length := by omega
  have hmc : m ≤ cr := by omega
  have hm6 : m ≤ 1000000 := by omega
  have HM : Hid (m = rest.length) := hm
  clear ht1 ht2 hdr hsp hx hLl hm hcr hc0 hL
  obtain ⟨g5, hg5⟩ : ∃ g, g = w.heap.size + 1 := ⟨_, rfl⟩
  obtain ⟨V, hV⟩ : ∃ V, V = (w.alloc (.cells #[.int .i64 0, .slice none 0 0, .slice none 0 0] 58)).alloc (.cells #[.int .i64 0, .slice none 0 0, .slice none 0 0] 58) := ⟨_, rfl⟩
  have hsz : (w.alloc (.cells #[.int .i64 0, .slice none 0 0, .slice none 0 0] 58)).heap.size = w.heap.size + 1 := World.size_alloc _ _
  have HV0 : Hid (HeS w V g5 0 none 0 []) := by
    have b1 : Below w.heap.size w (w.alloc (.cells #[.int .i64 0, .slice none 0 0, .slice none 0 0] 58)) := (Below.refl _ _).alloc (Nat.le_refl _) _
    have b2 : Below (w.heap.size + 1) (w.alloc (.cells #[.int .i64 0, .slice none 0 0, .slice none 0 0] 58)) V := by rw [hV, ← hsz]; exact (Below.refl _ _).alloc (Nat.le_refl _) _
    refine ⟨(b2.block _ (by omega)).trans (heap_alloc_new w _), ?_, OwnH.nil _ _, by omega, b1.trans (b2.mono (by omega))⟩
    rw [hg5, ← hsz, hV]
    exact heap_alloc_new _ _
  have HN0 := hide hN
  clear hN hsz
  go_enter Tryz.func67, Tryz.ntmps67
  go_upto_region 2 with fail
  rw [← hV, ← hg5]
  clear hV hg5
  go_wp2_with fail
  go_loopw [7] (fun i wr => ∃ (k : Nat) (s : Int), 100 ≤ k ∧ k ≤ 600 ∧ i = .int .i64 (k : Int) ∧ Hid ((s = 0 ∧ ∀ v : Int, 100 ≤ v → v < (k : Int) → reM v ≠ [] → l0 ≠ stL v) ∨ (s ≠ 0 ∧ reM s ≠ [] ∧ l0 = stL s)) ∧ Hid (HeS w wr g5 s none 0 [])) (fun i _ => 600 - (intOf i).toNat)
  case atStart => exact ⟨100, 0, by omega, by omega, rfl, .inl ⟨rfl, fun v h1 h2 => by omega⟩, HV0⟩
  case round =>
    clear HV0
    obtain ⟨k, s, hk1, hk6, rfl, HQ, HS⟩ := hrel
    by_cases hlt : k < 600
    · have hlt' : (k : Int) < 600 := by omega
      have HRE : Hid (∀ w, Calls Tryz.prog 29 #[.int .i64 (k : Int)] w fun e w' => e = .returned (.string (str (reM (k : Int)))) ∧ Hid (Below w.heap.size w w')) := fun w => rreason k w
      have HFI : Hid (∀ w, Calls Tryz.prog 62 #[.int .i64 (k : Int)] w fun e w' => e = .returned (.string (str (stL (k : Int)))) ∧ Hid (Below w.heap.size w w')) := fun w => rfirst k (by omega) w
      have d0 : wr.drew.cell? ⟨b, 0, none⟩ = some (.string (str l0)) := unhide HD0 wr.drew (((unhide HN0).below (unhide HS).bl (Nat.le_refl _)).below ((Below.refl _ _).drew) (Nat.le_refl _))
      obtain ⟨hp, hhp⟩ : ∃ hp : Option Addr, hp = none := ⟨_, rfl⟩
      obtain ⟨hc, hhc⟩ : ∃ hc : Nat, hc = 0 := ⟨_, rfl⟩
      obtain ⟨H, hH⟩ : ∃ H : List Hd, H = [] := ⟨_, rfl⟩
      rw [← hhp, ← hhc, ← hH] at HS
      have HHH := hide (And.intro hhp (And.intro hhc hH))
      clear hhp hhc hH
      go_upto_region 5 with fail
      by_cases hre : reM (k : Int) = []
      · have f1 : (str (reM (k : Int))).toList.isEmpty = true := by rw [toList_str, hre]; rfl
        have f2 : ((str (reM (k : Int))).toList != []) = false := by rw [toList_str, hre]; rfl
        have HRE0 := hide hre
        generalize reM (k : Int) = R at HRE f1 f2
        clear hre
        refine wp_region_held_drew (S := fun w' => w'.cell? ⟨b, 0, none⟩ = some (.string (str l0))) (by kernel_rfl) d0 (fun hHeld => ?_)
        refine wpAnyH_take (i := 0) (oi := ?_) (v := ?_) ?_ (by kernel_rfl) ?_ ?_ ?_ ?_ hHeld ?_
        rotate_left 2
        · (simp only [List.getElem?_toArray, List.getElem?_cons_zero]) <;> with_reducible rfl
        · kernel_rfl
        · kernel_rfl
        · exact fun _ _ _ h => h
        · exact Or.inl ⟨by rfl, by (intro w hSw; (try dsimp only at hSw); go_simp <;> with_reducible rfl)⟩
        simp only [Act.put, List.setIfInBounds_toArray, List.set_cons_zero, List.set_cons_succ]
        refine wpAnyH_ready (rs := [1]) (by kernel_rfl) (by simp) (AllReadyH.cons (o := ?_) ?_ (fun K hK => ?_) AllReadyH.nil)
        rotate_left 1
        · (simp only [List.getElem?_toArray, List.getElem?_cons_succ, List.getElem?_cons_zero]) <;> with_reducible rfl
        go_simp
        refine (unhide HRE _).mono ?_
        rintro e w2 ⟨rfl, HB2'⟩
        have HS2 : Hid (HeS w w2 g5 s hp hc H) := (unhide HS).drew.below (unhide HB2')
        have d2 : w2.cell? ⟨b, 0, none⟩ = some (.string (str l0)) := unhide HD0 _ ((unhide HN0).below (unhide HS2).bl (Nat.le_refl _))
        clear HB2' hHeld
        refine hK.out _ _ d2 (fun hHeld => ?_)
        clear hK K
        try simp only [Act.put, List.setIfInBounds_toArray, List.set_cons_zero, List.set_cons_succ]
        refine wpAnyH_take (i := 2) (oi := ?_) (v := ?_) ?_ (by kernel_rfl) ?_ ?_ ?_ ?_ hHeld ?_
        rotate_left 2
        · (simp only [List.getElem?_toArray, List.getElem?_cons_succ, List.getElem?_cons_zero]) <;> with_reducible rfl
        · kernel_rfl
        · kernel_rfl
        · exact fun _ _ _ h => h
        · exact Or.inl ⟨by rfl, by (intro w hSw; (try dsimp only at hSw); go_simp <;> with_reducible rfl)⟩
        simp only [Act.put, List.setIfInBounds_toArray, List.set_cons_zero, List.set_cons_succ]
        refine wpAnyH_take (i := 3) (oi := ?_) (v := ?_) ?_ (by kernel_rfl) ?_ ?_ ?_ ?_ hHeld ?_
        rotate_left 2
        · (simp only [List.getElem?_toArray, List.getElem?_cons_succ, List.getElem?_cons_zero]) <;> with_reducible rfl
        · kernel_rfl
        · kernel_rfl
        · exact fun _ _ _ h => h
        · exact Or.inl ⟨by rfl, by (intro w hSw; (try dsimp only at hSw); go_simp <;> with_reducible rfl)⟩
        simp only [Act.put, List.setIfInBounds_toArray, List.set_cons_zero, List.set_cons_succ]
        refine wpAnyH_take (i := 4) (oi := ?_) (v := undef) ?_ (by kernel_rfl) ?_ ?_ ?_ ?_ hHeld ?_
        rotate_left 1
        · (simp only [List.getElem?_toArray, List.getElem?_cons_succ, List.getElem?_cons_zero]) <;> with_reducible rfl
        · kernel_rfl
        · kernel_rfl
        · exact fun _ _ _ h => h
        · exact Or.inr ⟨by rfl, rfl⟩
        simp only [Act.put, List.setIfInBounds_toArray, List.set_cons_zero, List.set_cons_succ]
        refine wpAnyH_take (i := 5) (oi := ?_) (v := undef) ?_ (by kernel_rfl) ?_ ?_ ?_ ?_ hHeld ?_
        rotate_left 1
        · (simp only [List.getElem?_toArray, List.getElem?_cons_succ, List.getElem?_cons_zero]) <;> with_reducible rfl
        · kernel_rfl
        · kernel_rfl
        · exact fun _ _ _ h => h
        · exact Or.inr ⟨by rfl, rfl⟩
        simp only [Act.put, List.setIfInBounds_toArray, List.set_cons_zero, List.set_cons_succ]
        refine wpAnyH_take (i := 6) (oi := ?_) (v := undef) ?_ (by kernel_rfl) ?_ ?_ ?_ ?_ hHeld ?_
        rotate_left 1
        · (simp only [List.getElem?_toArray, List.getElem?_cons_succ, List.getElem?_cons_zero]) <;> with_reducible rfl
        · kernel_rfl
        · kernel_rfl
        · exact fun _ _ _ h => h
        · exact Or.inr ⟨by rfl, rfl⟩
        simp only [Act.put, List.setIfInBounds_toArray, List.set_cons_zero, List.set_cons_succ]
        refine wpAnyH_take (i := 7) (oi := ?_) (v := undef) ?_ (by kernel_rfl) ?_ ?_ ?_ ?_ hHeld ?_
        rotate_left 1
        · (simp only [List.getElem?_toArray, List.getElem?_cons_succ, List.getElem?_cons_zero]) <;> with_reducible rfl
        · kernel_rfl
        · kernel_rfl
        · exact fun _ _ _ h => h
        · exact Or.inr ⟨by rfl, rfl⟩
        simp only [Act.put, List.setIfInBounds_toArray, List.set_cons_zero, List.set_cons_succ]
        refine wpAnyH_take (i := 8) (oi := ?_) (v := undef) ?_ (by kernel_rfl) ?_ ?_ ?_ ?_ hHeld ?_
        rotate_left 1
        · (simp only [List.getElem?_toArray, List.getElem?_cons_succ, List.getElem?_cons_zero]) <;> with_reducible rfl
        · kernel_rfl
        · kernel_rfl
        · exact fun _ _ _ h => h
        · exact Or.inr ⟨by rfl, rfl⟩
        simp only [Act.put, List.setIfInBounds_toArray, List.set_cons_zero, List.set_cons_succ]
        refine wpAnyH_take (i := 9) (oi := ?_) (v := undef) ?_ (by kernel_rfl) ?_ ?_ ?_ ?_ hHeld ?_
        rotate_left 1
        · (simp only [List.getElem?_toArray, List.getElem?_cons_succ, List.getElem?_cons_zero]) <;> with_reducible rfl
        · kernel_rfl
        · kernel_rfl
        · exact fun _ _ _ h => h
        · exact Or.inr ⟨by rfl, rfl⟩
        simp only [Act.put, List.setIfInBounds_toArray, List.set_cons_zero, List.set_cons_succ]
        refine wpAnyH_take (i := 10) (oi := ?_) (v := ?_) ?_ (by kernel_rfl) ?_ ?_ ?_ ?_ hHeld ?_
        rotate_left 2
        · (simp only [List.getElem?_toArray, List.getElem?_cons_succ, List.getElem?_cons_zero]) <;> with_reducible rfl
        · kernel_rfl
        · kernel_rfl
        · exact fun _ _ _ h => h
        · exact Or.inl ⟨by rfl, by (intro w hSw; (try dsimp only at hSw); go_simp <;> with_reducible rfl)⟩
        simp only [Act.put, List.setIfInBounds_toArray, List.set_cons_zero, List.set_cons_succ]
        refine wpAnyH_done (by kernel_rfl) ?_ _

        go_wp2_with fail
        go_roundw
        case rel =>
          obtain ⟨rfl, rfl, rfl⟩ := unhide HHH
          refine ⟨k + 1, s, by omega, by omega, by go_num, ?_, HS2⟩
          rcases unhide HQ with ⟨e, h⟩ | h
          · refine .inl ⟨e, fun v h1 h2 h3 => ?_⟩
            by_cases hv : v = (k : Int)
            · subst hv; exact absurd (unhide HRE0) h3
            · exact h v h1 (by omega) h3
          · exact .inr h
        case measure => simp [intOf]; omega
      · have f1 : (str (reM (k : Int))).toList.isEmpty = false := by rw [toList_str]; cases h : reM (k : Int) with | nil => exact absurd h hre | cons a l => rfl
        have f2 : ((str (reM (k : Int))).toList != []) = true := by rw [toList_str]; cases h : reM (k : Int) with | nil => exact absurd h hre | cons a l => rfl
        have HRE0 := hide hre
        have q1 : ((str l0).toList == (str (stL (k : Int))).toList) = (l0 == stL (k : Int)) := by rw [toList_str, toList_str]
        obtain ⟨sl, hsl⟩ : ∃ sl, sl = stL (k : Int) := ⟨_, rfl⟩
        rw [← hsl] at HFI q1
        have HSL := hide hsl
        generalize reM (k : Int) = R at HRE f1 f2
        clear hre hsl
        by_cases hst : l0 = sl
        · have q2 : (l0 == sl) = true := by rw [hst]; simp
          rw [q2] at q1
          have HST := hide hst
          clear hst q2
          refine wp_region_held_drew (S := fun w' => w'.cell? ⟨b, 0, none⟩ = some (.string (str l0))) (by kernel_rfl) d0 (fun hHeld => ?_)
          refine wpAnyH_take (i := 0) (oi := ?_) (v := ?_) ?_ (by kernel_rfl) ?_ ?_ ?_ ?_ hHeld ?_
          rotate_left 2
          · (simp only [List.getElem?_toArray, List.getElem?_cons_zero]) <;> with_reducible rfl
          · kernel_rfl
          · kernel_rfl
          · exact fun _ _ _ h => h
          · exact Or.inl ⟨by rfl, by (intro w hSw; (try dsimp only at hSw); go_simp <;> with_reducible rfl)⟩
          simp only [Act.put, List.setIfInBounds_toArray, List.set_cons_zero, List.set_cons_succ]
          refine wpAnyH_ready (rs := [1]) (by kernel_rfl) (by simp) (AllReadyH.cons (o := ?_) ?_ (fun K hK => ?_) AllReadyH.nil)
          rotate_left 1
          · (simp only [List.getElem?_toArray, List.getElem?_cons_succ, List.getElem?_cons_zero]) <;> with_reducible rfl
          go_simp
          refine (unhide HRE _).mono ?_
          rintro e w2 ⟨rfl, HB2'⟩
          have HS2 : Hid (HeS w w2 g5 s hp hc H) := (unhide HS).drew.below (unhide HB2')
          have d2 : w2.cell? ⟨b, 0, none⟩ = some (.string (str l0)) := unhide HD0 _ ((unhide HN0).below (unhide HS2).bl (Nat.le_refl _))
          clear HB2' hHeld
          refine hK.out _ _ d2 (fun hHeld => ?_)
          clear hK K
          try simp only [Act.put, List.setIfInBounds_toArray, List.set_cons_zero, List.set_cons_succ]
          refine wpAnyH_take (i := 2) (oi := ?_) (v := ?_) ?_ (by kernel_rfl) ?_ ?_ ?_ ?_ hHeld ?_
          rotate_left 2
          · (simp only [List.getElem?_toArray, List.getElem?_cons_succ, List.getElem?_cons_zero]) <;> with_reducible rfl
          · kernel_rfl
          · kernel_rfl
          · exact fun _ _ _ h => h
          · exact Or.inl ⟨by rfl, by (intro w hSw; (try dsimp only at hSw); go_simp <;> with_reducible rfl)⟩
          simp only [Act.put, List.setIfInBounds_toArray, List.set_cons_zero, List.set_cons_succ]
          refine wpAnyH_take (i := 3) (oi := ?_) (v := ?_) ?_ (by kernel_rfl) ?_ ?_ ?_ ?_ hHeld ?_
          rotate_left 2
          · (simp only [List.getElem?_toArray, List.getElem?_cons_succ, List.getElem?_cons_zero]) <;> with_reducible rfl
          · kernel_rfl
          · kernel_rfl
          · exact fun _ _ _ h => h
          · exact Or.inl ⟨by rfl, by (intro w hSw; (try dsimp only at hSw); go_simp <;> with_reducible rfl)⟩
          simp only [Act.put, List.setIfInBounds_toArray, List.set_cons_zero, List.set_cons_succ]
          refine wpAnyH_take (i := 4) (oi := ?_) (v := ?_) ?_ (by kernel_rfl) ?_ ?_ ?_ ?_ hHeld ?_
          rotate_left 2
          · (simp only [List.getElem?_toArray, List.getElem?_cons_succ, List.getElem?_cons_zero]) <;> with_reducible rfl
          · kernel_rfl
          · kernel_rfl
          · exact fun _ _ _ h => h
          · exact Or.inl ⟨by rfl, by (intro w hSw; (try dsimp only at hSw); go_simp <;> with_reducible rfl)⟩
          simp only [Act.put, List.setIfInBounds_toArray, List.set_cons_zero, List.set_cons_succ]
          refine wpAnyH_take (i := 5) (oi := ?_) (v := ?_) ?_ (by kernel_rfl) ?_ ?_ ?_ ?_ hHeld ?_
          rotate_left 2
          · (simp only [List.getElem?_toArray, List.getElem?_cons_succ, List.getElem?_cons_zero]) <;> with_reducible rfl
          · kernel_rfl
          · kernel_rfl
          · exact fun _ _ _ h => h
          · exact Or.inl ⟨by rfl, by (intro w hSw; (try dsimp only at hSw); go_simp <;> with_reducible rfl)⟩
          simp only [Act.put, List.setIfInBounds_toArray, List.set_cons_zero, List.set_cons_succ]
          refine wpAnyH_take (i := 6) (oi := ?_) (v := ?_) ?_ (by kernel_rfl) ?_ ?_ ?_ ?_ hHeld ?_
          rotate_left 2
          · (simp only [List.getElem?_toArray, List.getElem?_cons_succ, List.getElem?_cons_zero]) <;> with_reducible rfl
          · kernel_rfl
          · kernel_rfl
          · exact fun _ _ _ h => h
          · exact Or.inl ⟨by rfl, by (intro w hSw; (try dsimp only at hSw); go_simp <;> with_reducible rfl)⟩
          simp only [Act.put, List.setIfInBounds_toArray, List.set_cons_zero, List.set_cons_succ]
          refine wpAnyH_take (i := 7) (oi := ?_) (v := ?_) ?_ (by kernel_rfl) ?_ ?_ ?_ ?_ hHeld ?_
          rotate_left 2
          · (simp only [List.getElem?_toArray, List.getElem?_cons_succ, List.getElem?_cons_zero]) <;> with_reducible rfl
          · kernel_rfl
          · kernel_rfl
          · exact fun _ _ _ h => h
          · exact Or.inl ⟨by rfl, by (intro w hSw; (try dsimp only at hSw); go_simp <;> with_reducible rfl)⟩
          simp only [Act.put, List.setIfInBounds_toArray, List.set_cons_zero, List.set_cons_succ]
          refine wpAnyH_ready (rs := [8]) (by kernel_rfl) (by simp) (AllReadyH.cons (o := ?_) ?_ (fun K hK => ?_) AllReadyH.nil)
          rotate_left 1
          · (simp only [List.getElem?_toArray, List.getElem?_cons_succ, List.getElem?_cons_zero]) <;> with_reducible rfl
          go_simp
          refine (unhide HFI _).mono ?_
          rintro e w3 ⟨rfl, HB3'⟩
          have HS3 : Hid (HeS w w3 g5 s hp hc H) := (unhide HS2).below (unhide HB3')
          have d3 : w3.cell? ⟨b, 0, none⟩ = some (.string (str l0)) := unhide HD0 _ ((unhide HN0).below (unhide HS3).bl (Nat.le_refl _))
          clear HB3' hHeld
          refine hK.out _ _ d3 (fun hHeld => ?_)
          clear hK K
          try simp only [Act.put, List.setIfInBounds_toArray, List.set_cons_zero, List.set_cons_succ]
          refine wpAnyH_take (i := 9) (oi := ?_) (v := ?_) ?_ (by kernel_rfl) ?_ ?_ ?_ ?_ hHeld ?_
          rotate_left 2
          · (simp only [List.getElem?_toArray, List.getElem?_cons_succ, List.getElem?_cons_zero]) <;> with_reducible rfl
          · kernel_rfl
          · kernel_rfl
          · exact fun _ _ _ h => h
          · exact Or.inl ⟨by rfl, by (intro w hSw; (try dsimp only at hSw); go_simp <;> with_reducible rfl)⟩
          simp only [Act.put, List.setIfInBounds_toArray, List.set_cons_zero, List.set_cons_succ]
          refine wpAnyH_take (i := 10) (oi := ?_) (v := ?_) ?_ (by kernel_rfl) ?_ ?_ ?_ ?_ hHeld ?_
          rotate_left 2
          · (simp only [List.getElem?_toArray, List.getElem?_cons_succ, List.getElem?_cons_zero]) <;> with_reducible rfl
          · kernel_rfl
          · kernel_rfl
          · exact fun _ _ _ h => h
          · exact Or.inl ⟨by rfl, by (intro w hSw; (try dsimp only at hSw); go_simp <;> with_reducible rfl)⟩
          simp only [Act.put, List.setIfInBounds_toArray, List.set_cons_zero, List.set_cons_succ]
          refine wpAnyH_done (by kernel_rfl) ?_ _

          have HS4 : Hid (HeS w (w3.setCell ⟨g5, 0, none⟩ (.int .i64 (k : Int))) g5 (k : Int) hp hc H) := (unhide HS3).status _
          obtain ⟨z0, z1, z2, f0, f1, f2, a0, a1, a2⟩ := (unhide HS3).cells
          have fz := frozen_of_row w3 g5 0 _ _ (unhide HS3).an
          clear z0 z1 z2 f0 f1 f2 a1 a2
          obtain ⟨w4, hw4⟩ : ∃ v, v = w3.setCell ⟨g5, 0, none⟩ (.int .i64 (k : Int)) := ⟨_, rfl⟩
          rw [← hw4] at HS4
          go_wp2_with fail
          rw [← hw4]
          go_roundw
          case rel =>
            obtain ⟨rfl, rfl, rfl⟩ := unhide HHH
            exact ⟨k + 1, (k : Int), by omega, by omega, by go_num, .inr ⟨by omega, unhide HRE0, (unhide HST).trans (unhide HSL)⟩, HS4⟩
          case measure => simp [intOf]; omega
        · have q2 : (l0 == sl) = false := by rw [beq_eq_false_iff_ne]; exact hst
          rw [q2] at q1
          have HST := hide hst
          clear hst q2
          refine wp_region_held_drew (S := fun w' => w'.cell? ⟨b, 0, none⟩ = some (.string (str l0))) (by kernel_rfl) d0 (fun hHeld => ?_)
          refine wpAnyH_take (i := 0) (oi := ?_) (v := ?_) ?_ (by kernel_rfl) ?_ ?_ ?_ ?_ hHeld ?_
          rotate_left 2
          · (simp only [List.getElem?_toArray, List.getElem?_cons_zero]) <;> with_reducible rfl
          · kernel_rfl
          · kernel_rfl
          · exact fun _ _ _ h => h
          · exact Or.inl ⟨by rfl, by (intro w hSw; (try dsimp only at hSw); go_simp <;> with_reducible rfl)⟩
          simp only [Act.put, List.setIfInBounds_toArray, List.set_cons_zero, List.set_cons_succ]
          refine wpAnyH_ready (rs := [1]) (by kernel_rfl) (by simp) (AllReadyH.cons (o := ?_) ?_ (fun K hK => ?_) AllReadyH.nil)
          rotate_left 1
          · (simp only [List.getElem?_toArray, List.getElem?_cons_succ, List.getElem?_cons_zero]) <;> with_reducible rfl
          go_simp
          refine (unhide HRE _).mono ?_
          rintro e w2 ⟨rfl, HB2'⟩
          have HS2 : Hid (HeS w w2 g5 s hp hc H) := (unhide HS).drew.below (unhide HB2')
          have d2 : w2.cell? ⟨b, 0, none⟩ = some (.string (str l0)) := unhide HD0 _ ((unhide HN0).below (unhide HS2).bl (Nat.le_refl _))
          clear HB2' hHeld
          refine hK.out _ _ d2 (fun hHeld => ?_)
          clear hK K
          try simp only [Act.put, List.setIfInBounds_toArray, List.set_cons_zero, List.set_cons_succ]
          refine wpAnyH_take (i := 2) (oi := ?_) (v := ?_) ?_ (by kernel_rfl) ?_ ?_ ?_ ?_ hHeld ?_
          rotate_left 2
          · (simp only [List.getElem?_toArray, List.getElem?_cons_succ, List.getElem?_cons_zero]) <;> with_reducible rfl
          · kernel_rfl
          · kernel_rfl
          · exact fun _ _ _ h => h
          · exact Or.inl ⟨by rfl, by (intro w hSw; (try dsimp only at hSw); go_simp <;> with_reducible rfl)⟩
          simp only [Act.put, List.setIfInBounds_toArray, List.set_cons_zero, List.set_cons_succ]
          refine wpAnyH_take (i := 3) (oi := ?_) (v := ?_) ?_ (by kernel_rfl) ?_ ?_ ?_ ?_ hHeld ?_
          rotate_left 2
          · (simp only [List.getElem?_toArray, List.getElem?_cons_succ, List.getElem?_cons_zero]) <;> with_reducible rfl
          · kernel_rfl
          · kernel_rfl
          · exact fun _ _ _ h => h
          · exact Or.inl ⟨by rfl, by (intro w hSw; (try dsimp only at hSw); go_simp <;> with_reducible rfl)⟩
          simp only [Act.put, List.setIfInBounds_toArray, List.set_cons_zero, List.set_cons_succ]
          refine wpAnyH_take (i := 4) (oi := ?_) (v := ?_) ?_ (by kernel_rfl) ?_ ?_ ?_ ?_ hHeld ?_
          rotate_left 2
          · (simp only [List.getElem?_toArray, List.getElem?_cons_succ, List.getElem?_cons_zero]) <;> with_reducible rfl
          · kernel_rfl
          · kernel_rfl
          · exact fun _ _ _ h => h
          · exact Or.inl ⟨by rfl, by (intro w hSw; (try dsimp only at hSw); go_simp <;> with_reducible rfl)⟩
          simp only [Act.put, List.setIfInBounds_toArray, List.set_cons_zero, List.set_cons_succ]
          refine wpAnyH_take (i := 5) (oi := ?_) (v := ?_) ?_ (by kernel_rfl) ?_ ?_ ?_ ?_ hHeld ?_
          rotate_left 2
          · (simp only [List.getElem?_toArray, List.getElem?_cons_succ, List.getElem?_cons_zero]) <;> with_reducible rfl
          · kernel_rfl
          · kernel_rfl
          · exact fun _ _ _ h => h
          · exact Or.inl ⟨by rfl, by (intro w hSw; (try dsimp only at hSw); go_simp <;> with_reducible rfl)⟩
          simp only [Act.put, List.setIfInBounds_toArray, List.set_cons_zero, List.set_cons_succ]
          refine wpAnyH_take (i := 6) (oi := ?_) (v := ?_) ?_ (by kernel_rfl) ?_ ?_ ?_ ?_ hHeld ?_
          rotate_left 2
          · (simp only [List.getElem?_toArray, List.getElem?_cons_succ, List.getElem?_cons_zero]) <;> with_reducible rfl
          · kernel_rfl
          · kernel_rfl
          · exact fun _ _ _ h => h
          · exact Or.inl ⟨by rfl, by (intro w hSw; (try dsimp only at hSw); go_simp <;> with_reducible rfl)⟩
          simp only [Act.put, List.setIfInBounds_toArray, List.set_cons_zero, List.set_cons_succ]
          refine wpAnyH_take (i := 7) (oi := ?_) (v := ?_) ?_ (by kernel_rfl) ?_ ?_ ?_ ?_ hHeld ?_
          rotate_left 2
          · (simp only [List.getElem?_toArray, List.getElem?_cons_succ, List.getElem?_cons_zero]) <;> with_reducible rfl
          · kernel_rfl
          · kernel_rfl
          · exact fun _ _ _ h => h
          · exact Or.inl ⟨by rfl, by (intro w hSw; (try dsimp only at hSw); go_simp <;> with_reducible rfl)⟩
          simp only [Act.put, List.setIfInBounds_toArray, List.set_cons_zero, List.set_cons_succ]
          refine wpAnyH_ready (rs := [8]) (by kernel_rfl) (by simp) (AllReadyH.cons (o := ?_) ?_ (fun K hK => ?_) AllReadyH.nil)
          rotate_left 1
          · (simp only [List.getElem?_toArray, List.getElem?_cons_succ, List.getElem?_cons_zero]) <;> with_reducible rfl
          go_simp
          refine (unhide HFI _).mono ?_
          rintro e w3 ⟨rfl, HB3'⟩
          have HS3 : Hid (HeS w w3 g5 s hp hc H) := (unhide HS2).below (unhide HB3')
          have d3 : w3.cell? ⟨b, 0, none⟩ = some (.string (str l0)) := unhide HD0 _ ((unhide HN0).below (unhide HS3).bl (Nat.le_refl _))
          clear HB3' hHeld
          refine hK.out _ _ d3 (fun hHeld => ?_)
          clear hK K
          try simp only [Act.put, List.setIfInBounds_toArray, List.set_cons_zero, List.set_cons_succ]
          refine wpAnyH_take (i := 9) (oi := ?_) (v := ?_) ?_ (by kernel_rfl) ?_ ?_ ?_ ?_ hHeld ?_
          rotate_left 2
          · (simp only [List.getElem?_toArray, List.getElem?_cons_succ, List.getElem?_cons_zero]) <;> with_reducible rfl
          · kernel_rfl
          · kernel_rfl
          · exact fun _ _ _ h => h
          · exact Or.inl ⟨by rfl, by (intro w hSw; (try dsimp only at hSw); go_simp <;> with_reducible rfl)⟩
          simp only [Act.put, List.setIfInBounds_toArray, List.set_cons_zero, List.set_cons_succ]
          refine wpAnyH_take (i := 10) (oi := ?_) (v := ?_) ?_ (by kernel_rfl) ?_ ?_ ?_ ?_ hHeld ?_
          rotate_left 2
          · (simp only [List.getElem?_toArray, List.getElem?_cons_succ, List.getElem?_cons_zero]) <;> with_reducible rfl
          · kernel_rfl
          · kernel_rfl
          · exact fun _ _ _ h => h
          · exact Or.inl ⟨by rfl, by (intro w hSw; (try dsimp only at hSw); go_simp <;> with_reducible rfl)⟩
          simp only [Act.put, List.setIfInBounds_toArray, List.set_cons_zero, List.set_cons_succ]
          refine wpAnyH_done (by kernel_rfl) ?_ _

          go_wp2_with fail
          go_roundw
          case rel =>
            obtain ⟨rfl, rfl, rfl⟩ := unhide HHH
            refine ⟨k + 1, s, by omega, by omega, by go_num, ?_, HS3⟩
            rcases unhide HQ with ⟨e, h⟩ | h
            · refine .inl ⟨e, fun v h1 h2 h3 => ?_⟩
              by_cases hv : v = (k : Int)
              · subst hv; intro e2; exact unhide HST (e2.trans (unhide HSL).symm)
              · exact h v h1 (by omega) h3
            · exact .inr h
          case measure => simp [intOf]; omega
    · obtain rfl : k = 600 := by omega
      have HST : Hid ((s = 0 ∧ ∀ v : Int, reM v ≠ [] → l0 ≠ stL v) ∨ (s ≠ 0 ∧ reM s ≠ [] ∧ l0 = stL s)) := by
        rcases unhide HQ with ⟨e, h⟩ | h
        · exact .inl ⟨e, fun v h3 => h v (re_range v h3).1 (by have := (re_range v h3).2; omega) h3⟩
        · exact .inr h
      clear hlt HQ hk1 hk6 HD0
      obtain ⟨z0, z1, z2, f0, f1, f2, a0, a1, a2⟩ := (unhide HS).cells
      by_cases hs0 : s = 0
      · subst hs0
        have HFF : Hid (RAs hd 0 [] 0 false) := ⟨fun h => (by cases h), fun _ s' H' n' hra => by
          obtain ⟨e2, e3, e4, e5⟩ := (ra_ral (unhide HSP) s' H' n').1 hra
          rcases unhide HST with ⟨_, h⟩ | ⟨h, _⟩
          · exact h s' e2 e3
          · exact h rfl⟩
        clear z0 z1 z2 f0 f1 f2 a1 a2
        obtain ⟨z0, z1, z2, f0, f1, f2, a0, a1, a2⟩ := (unhide HS).cells
        obtain ⟨X, hX⟩ : ∃ X, X = ((wr.setCell ⟨w.heap.size, 0, none⟩ (.int .i64 0)).setCell ⟨w.heap.size, 1, none⟩ (.slice none 0 0)).setCell ⟨w.heap.size, 2, none⟩ (.slice none 0 0) := ⟨_, rfl⟩
        obtain ⟨q0, q1, q2, hbX, hhX⟩ := (unhide HS).ret
        simp only [List.length_nil] at q0 q1 q2 hbX hhX
        simp only [List.length_nil] at a1
        rw [← hX] at q0 q1 q2 hbX hhX
        have HBX := hide hbX
        have HHX := hide hhX
        clear hbX hhX
        go_wp2_with fail
        rw [← hX]
        refine bodyPost_ret (v := .tuple #[.agg #[.int .i64 0, .slice none 0 0, .slice none 0 0], .int .i64 0, .bool false]) (by simp [results, Tryz.results67, go_sem, q0, q1, q2]) rfl ?_
        exact RaP.mk 0 ([] : List Hd) 0 false none 0 rfl HFF HHX HBX

      have HS0 : Hid (reM s ≠ [] ∧ l0 = stL s) := by
        rcases unhide HST with ⟨e, _⟩ | ⟨_, h⟩
        · exact absurd e hs0
        · exact h
      have hs0' : (s == 0) = false := by rw [beq_eq_false_iff_ne]; exact hs0
      have HSU : Hid (∀ v, reM v ≠ [] → l0 = stL v → v = s) := fun v h1 h2 => stL_one h1 (unhide HS0).1 (h2.symm.trans (unhide HS0).2)
      clear hs0 HST
      by_cases h32 : 32 < m
      · have h32' : (32 : Int) < (m : Int) := by omega
        have HFF : Hid (RAs hd s [] 0 false) := ⟨fun h => (by cases h), fun _ s' H' n' hra => by
          obtain ⟨e2, e3, e4, e5⟩ := (ra_ral (unhide HSP) s' H' n').1 hra
          have := unhide HM
          omega⟩
        clear z0 z1 z2 f0 f1 f2 a1 a2
        obtain ⟨z0, z1, z2, f0, f1, f2, a0, a1, a2⟩ := (unhide HS).cells
        obtain ⟨X, hX⟩ : ∃ X, X = ((wr.setCell ⟨w.heap.size, 0, none⟩ (.int .i64 s)).setCell ⟨w.heap.size, 1, none⟩ (.slice none 0 0)).setCell ⟨w.heap.size, 2, none⟩ (.slice none 0 0) := ⟨_, rfl⟩
        obtain ⟨q0, q1, q2, hbX, hhX⟩ := (unhide HS).ret
        simp only [List.length_nil] at q0 q1 q2 hbX hhX
        simp only [List.length_nil] at a1
        rw [← hX] at q0 q1 q2 hbX hhX
        have HBX := hide hbX
        have HHX := hide hhX
        clear hbX hhX
        go_wp2_with fail
        rw [← hX]
        refine bodyPost_ret (v := .tuple #[.agg #[.int .i64 s, .slice none 0 0, .slice none 0 0], .int .i64 0, .bool false]) (by simp [results, Tryz.results67, go_sem, q0, q1, q2]) rfl ?_
        exact RaP.mk s ([] : List Hd) 0 false none 0 rfl HFF HHX HBX

      have h32' : ¬ (32 : Int) < (m : Int) := by omega
      have hm32 : m ≤ 32 := by omega
      clear h32
      have HSS := HS
      by_cases h101 : s = 101
      · have h101b : (s != 101) = false := by rw [h101]; rfl
        have H101 := hide h101
        have HXL := HXX
        have HNA : Hid (NsO w at1 rest) := unhide HT2 _ (unhide HN0)
        obtain ⟨ap, hap⟩ : ∃ ap, ap = at1 := ⟨_, rfl⟩
        clear h101 z0 z1 z2 f0 f1 f2 a1 a2 HS hap
        have hmr := unhide HM
        subst hmr
        obtain ⟨TT, hTT⟩ : ∃ TT, ohM rest [] = TT := ⟨_, rfl⟩
        have HT0 : Hid (TT = ohM (rest.drop 0) []) := by show _ = _; rw [← hTT]; rfl
        have HTT := hide hTT
        clear hTT
        go_wp2_with fail
        go_loopw [83] (fun i wr => ∃ k : Nat, k ≤ rest.length ∧ i = .int .i64 (k : Int) ∧ ∃ (hp : Option Addr) (hc : Nat) (acc : List Hd), acc.length ≤ k ∧ Hid (TT = ohM (rest.drop k) acc) ∧ Hid (HeS w wr g5 s hp hc acc)) (fun i _ => rest.length - (intOf i).toNat)
        case atStart => exact ⟨0, Nat.zero_le _, rfl, none, 0, [], by simp, HT0, HSS⟩
        case round =>
          clear HT0 HSS
          obtain ⟨k, hk, rfl, hp, hc, acc, hacc, HT, HS⟩ := hrel
          by_cases hlt : k < rest.length
          · have hlt' : (k : Int) < (rest.length : Int) := by omega
            obtain ⟨x, hx⟩ : ∃ x, rest[k]? = some x := ⟨_, List.getElem?_eq_getElem hlt⟩
            obtain ⟨b9, off9, hpe, hc9⟩ := ((unhide HNA).below (unhide HS).bl (Nat.le_refl _)).mem (by intro e; rw [e] at hx; simp at hx)
            subst hpe
            have c0 := hc9 k x hx
            have hxl : x.length ≤ 1000000 := unhide HXL x (List.mem_of_getElem? hx)
            have HST : Hid (TT = match ohF x with | some h => ohM (rest.drop (k + 1)) (acc ++ [h]) | none => none) := by show _ = _; rw [unhide HT]; exact ohM_step rest k x acc hx
            have HF : Hid (ohF x = if whM [58, 32] x = x.length then none else if plB (x.take (whM [58, 32] x), x.drop (whM [58, 32] x + 2)) then some (x.take (whM [58, 32] x), x.drop (whM [58, 32] x + 2)) else none) := ohF_wh x
            have HW2 : Hid (whM [58, 32] x = x.length ∨ whM [58, 32] x + 2 ≤ x.length) := by
              rcases whM_cases [58, 32] x with ⟨_, h⟩ | ⟨i, _, h, h'⟩
              · exact .inl h
              · right; rw [h]; exact h'
            have HWH : Hid (∀ w, Calls Tryz.prog 53 #[.string ⟨#[58, 32]⟩, .string (str x)] w fun e w' => e = .returned (.int .i64 (whM [58, 32] x : Int)) ∧ w' = w) := fun w => where_any [58, 32] x w (by omega) (by decide) (by decide)
            have zx : (str x).size = x.length := str_size x
            generalize whM [58, 32] x = q at HF HW2 HWH
            clear hc9 hx HT
            go_wp2_with fail
            refine (unhide HWH _).mono ?_
            rintro e w5 ⟨rfl, rfl⟩
            clear HWH c0
            go_upto_region 22 with fail
            by_cases hq : q = x.length
            · have e0 : ((q : Int) == (x.length : Int)) = true := by rw [hq]; simp
              have HNO : Hid (TT = none) := by show _ = _; rw [unhide HST, unhide HF, if_pos hq]
              clear HW2 HF HST hq
              refine wp_region_held_drew (S := fun _ => True) (by kernel_rfl) trivial (fun hHeld => ?_)
              refine wpAnyH_take (i := 0) (oi := ?_) (v := ?_) ?_ (by kernel_rfl) ?_ ?_ ?_ ?_ hHeld ?_
              rotate_left 2
              · (simp only [List.getElem?_toArray, List.getElem?_cons_zero]) <;> with_reducible rfl
              · kernel_rfl
              · kernel_rfl
              · exact fun _ _ _ h => h
              · exact Or.inl ⟨by rfl, by (intro w hSw; (try dsimp only at hSw); go_simp <;> with_reducible rfl)⟩
              simp only [Act.put, List.setIfInBounds_toArray, List.set_cons_zero, List.set_cons_succ]
              refine wpAnyH_take (i := 1) (oi := ?_) (v := ?_) ?_ (by kernel_rfl) ?_ ?_ ?_ ?_ hHeld ?_
              rotate_left 2
              · (simp only [List.getElem?_toArray, List.getElem?_cons_succ, List.getElem?_cons_zero]) <;> with_reducible rfl
              · kernel_rfl
              · kernel_rfl
              · exact fun _ _ _ h => h
              · exact Or.inl ⟨by rfl, by (intro w hSw; (try dsimp only at hSw); go_simp <;> with_reducible rfl)⟩
              simp only [Act.put, List.setIfInBounds_toArray, List.set_cons_zero, List.set_cons_succ]
              refine wpAnyH_take (i := 2) (oi := ?_) (v := ?_) ?_ (by kernel_rfl) ?_ ?_ ?_ ?_ hHeld ?_
              rotate_left 2
              · (simp only [List.getElem?_toArray, List.getElem?_cons_succ, List.getElem?_cons_zero]) <;> with_reducible rfl
              · kernel_rfl
              · kernel_rfl
              · exact fun _ _ _ h => h
              · exact Or.inl ⟨by rfl, by (intro w hSw; (try dsimp only at hSw); go_simp <;> with_reducible rfl)⟩
              simp only [Act.put, List.setIfInBounds_toArray, List.set_cons_zero, List.set_cons_succ]
              refine wpAnyH_take (i := 3) (oi := ?_) (v := ?_) ?_ (by kernel_rfl) ?_ ?_ ?_ ?_ hHeld ?_
              rotate_left 2
              · (simp only [List.getElem?_toArray, List.getElem?_cons_succ, List.getElem?_cons_zero]) <;> with_reducible rfl
              · kernel_rfl
              · kernel_rfl
              · exact fun _ _ _ h => h
              · exact Or.inl ⟨by rfl, by (intro w hSw; (try dsimp only at hSw); go_simp <;> with_reducible rfl)⟩
              simp only [Act.put, List.setIfInBounds_toArray, List.set_cons_zero, List.set_cons_succ]
              refine wpAnyH_take (i := 4) (oi := ?_) (v := ?_) ?_ (by kernel_rfl) ?_ ?_ ?_ ?_ hHeld ?_
              rotate_left 2
              · (simp only [List.getElem?_toArray, List.getElem?_cons_succ, List.getElem?_cons_zero]) <;> with_reducible rfl
              · kernel_rfl
              · kernel_rfl
              · exact fun _ _ _ h => h
              · exact Or.inl ⟨by rfl, by (intro w hSw; (try dsimp only at hSw); go_simp <;> with_reducible rfl)⟩
              simp only [Act.put, List.setIfInBounds_toArray, List.set_cons_zero, List.set_cons_succ]
              refine wpAnyH_take (i := 5) (oi := ?_) (v := undef) ?_ (by kernel_rfl) ?_ ?_ ?_ ?_ hHeld ?_
              rotate_left 1
              · (simp only [List.getElem?_toArray, List.getElem?_cons_succ, List.getElem?_cons_zero]) <;> with_reducible rfl
              · kernel_rfl
              · kernel_rfl
              · exact fun _ _ _ h => h
              · exact Or.inr ⟨by rfl, rfl⟩
              simp only [Act.put, List.setIfInBounds_toArray, List.set_cons_zero, List.set_cons_succ]
              refine wpAnyH_take (i := 6) (oi := ?_) (v := undef) ?_ (by kernel_rfl) ?_ ?_ ?_ ?_ hHeld ?_
              rotate_left 1
              · (simp only [List.getElem?_toArray, List.getElem?_cons_succ, List.getElem?_cons_zero]) <;> with_reducible rfl
              · kernel_rfl
              · kernel_rfl
              · exact fun _ _ _ h => h
              · exact Or.inr ⟨by rfl, rfl⟩
              simp only [Act.put, List.setIfInBounds_toArray, List.set_cons_zero, List.set_cons_succ]
              refine wpAnyH_take (i := 7) (oi := ?_) (v := undef) ?_ (by kernel_rfl) ?_ ?_ ?_ ?_ hHeld ?_
              rotate_left 1
              · (simp only [List.getElem?_toArray, List.getElem?_cons_succ, List.getElem?_cons_zero]) <;> with_reducible rfl
              · kernel_rfl
              · kernel_rfl
              · exact fun _ _ _ h => h
              · exact Or.inr ⟨by rfl, rfl⟩
              simp only [Act.put, List.setIfInBounds_toArray, List.set_cons_zero, List.set_cons_succ]
              refine wpAnyH_take (i := 8) (oi := ?_) (v := undef) ?_ (by kernel_rfl) ?_ ?_ ?_ ?_ hHeld ?_
              rotate_left 1
              · (simp only [List.getElem?_toArray, List.getElem?_cons_succ, List.getElem?_cons_zero]) <;> with_reducible rfl
              · kernel_rfl
              · kernel_rfl
              · exact fun _ _ _ h => h
              · exact Or.inr ⟨by rfl, rfl⟩
              simp only [Act.put, List.setIfInBounds_toArray, List.set_cons_zero, List.set_cons_succ]
              refine wpAnyH_take (i := 9) (oi := ?_) (v := undef) ?_ (by kernel_rfl) ?_ ?_ ?_ ?_ hHeld ?_
              rotate_left 1
              · (simp only [List.getElem?_toArray, List.getElem?_cons_succ, List.getElem?_cons_zero]) <;> with_reducible rfl
              · kernel_rfl
              · kernel_rfl
              · exact fun _ _ _ h => h
              · exact Or.inr ⟨by rfl, rfl⟩
              simp only [Act.put, List.setIfInBounds_toArray, List.set_cons_zero, List.set_cons_succ]
              refine wpAnyH_take (i := 10) (oi := ?_) (v := undef) ?_ (by kernel_rfl) ?_ ?_ ?_ ?_ hHeld ?_
              rotate_left 1
              · (simp only [List.getElem?_toArray, List.getElem?_cons_succ, List.getElem?_cons_zero]) <;> with_reducible rfl
              · kernel_rfl
              · kernel_rfl
              · exact fun _ _ _ h => h
              · exact Or.inr ⟨by rfl, rfl⟩
              simp only [Act.put, List.setIfInBounds_toArray, List.set_cons_zero, List.set_cons_succ]
              refine wpAnyH_take (i := 11) (oi := ?_) (v := undef) ?_ (by kernel_rfl) ?_ ?_ ?_ ?_ hHeld ?_
              rotate_left 1
              · (simp only [List.getElem?_toArray, List.getElem?_cons_succ, List.getElem?_cons_zero]) <;> with_reducible rfl
              · kernel_rfl
              · kernel_rfl
              · exact fun _ _ _ h => h
              · exact Or.inr ⟨by rfl, rfl⟩
              simp only [Act.put, List.setIfInBounds_toArray, List.set_cons_zero, List.set_cons_succ]
              refine wpAnyH_take (i := 12) (oi := ?_) (v := undef) ?_ (by kernel_rfl) ?_ ?_ ?_ ?_ hHeld ?_
              rotate_left 1
              · (simp only [List.getElem?_toArray, List.getElem?_cons_succ, List.getElem?_cons_zero]) <;> with_reducible rfl
              · kernel_rfl
              · kernel_rfl
              · exact fun _ _ _ h => h
              · exact Or.inr ⟨by rfl, rfl⟩
              simp only [Act.put, List.setIfInBounds_toArray, List.set_cons_zero, List.set_cons_succ]
              refine wpAnyH_take (i := 13) (oi := ?_) (v := undef) ?_ (by kernel_rfl) ?_ ?_ ?_ ?_ hHeld ?_
              rotate_left 1
              · (simp only [List.getElem?_toArray, List.getElem?_cons_succ, List.getElem?_cons_zero]) <;> with_reducible rfl
              · kernel_rfl
              · kernel_rfl
              · exact fun _ _ _ h => h
              · exact Or.inr ⟨by rfl, rfl⟩
              simp only [Act.put, List.setIfInBounds_toArray, List.set_cons_zero, List.set_cons_succ]
              refine wpAnyH_take (i := 14) (oi := ?_) (v := undef) ?_ (by kernel_rfl) ?_ ?_ ?_ ?_ hHeld ?_
              rotate_left 1
              · (simp only [List.getElem?_toArray, List.getElem?_cons_succ, List.getElem?_cons_zero]) <;> with_reducible rfl
              · kernel_rfl
              · kernel_rfl
              · exact fun _ _ _ h => h
              · exact Or.inr ⟨by rfl, rfl⟩
              simp only [Act.put, List.setIfInBounds_toArray, List.set_cons_zero, List.set_cons_succ]
              refine wpAnyH_take (i := 15) (oi := ?_) (v := ?_) ?_ (by kernel_rfl) ?_ ?_ ?_ ?_ hHeld ?_
              rotate_left 2
              · (simp only [List.getElem?_toArray, List.getElem?_cons_succ, List.getElem?_cons_zero]) <;> with_reducible rfl
              · kernel_rfl
              · kernel_rfl
              · exact fun _ _ _ h => h
              · exact Or.inl ⟨by rfl, by (intro w hSw; (try dsimp only at hSw); go_simp <;> with_reducible rfl)⟩
              simp only [Act.put, List.setIfInBounds_toArray, List.set_cons_zero, List.set_cons_succ]
              refine wpAnyH_done (by kernel_rfl) ?_ _

              have HSD := hide (unhide HS).drew
              obtain ⟨wD, hwD⟩ : ∃ v, v = w5.drew := ⟨_, rfl⟩
              rw [← hwD] at HSD ⊢
              clear hwD
              have HFF : Hid (RAs hd s acc 0 false) := ⟨fun h => (by cases h), fun _ s' H' n' hra => by
                obtain ⟨e2, e3, e4, e5⟩ := (ra_ral (unhide HSP) s' H' n').1 hra
                have e7 := unhide HSU s' e2 e3
                rcases e5 with ⟨_, _, e9⟩ | ⟨e8, _⟩
                · rw [unhide HTT, unhide HNO] at e9; cases e9
                · exact e8 (e7.trans (unhide H101))⟩
              obtain ⟨z0, z1, z2, f0, f1, f2, a0, a1, a2⟩ := (unhide HSD).cells
              obtain ⟨X, hX⟩ : ∃ X, X = ((wD.setCell ⟨w.heap.size, 0, none⟩ (.int .i64 s)).setCell ⟨w.heap.size, 1, none⟩ (.slice hp acc.length hc)).setCell ⟨w.heap.size, 2, none⟩ (.slice none 0 0) := ⟨_, rfl⟩
              obtain ⟨q0, q1, q2, hbX, hhX⟩ := (unhide HSD).ret
              rw [← hX] at q0 q1 q2 hbX hhX
              have HBX := hide hbX
              have HHX := hide hhX
              clear hbX hhX
              go_wp2_with fail
              rw [← hX]
              refine bodyPost_ret (v := .tuple #[.agg #[.int .i64 s, .slice hp acc.length hc, .slice none 0 0], .int .i64 0, .bool false]) (by simp [results, Tryz.results67, go_sem, q0, q1, q2]) rfl ?_
              exact RaP.mk s acc 0 false hp hc rfl HFF HHX HBX

            · have hq2 : q + 2 ≤ x.length := by have := unhide HW2; omega
              have e0 : ((q : Int) == (x.length : Int)) = false := by rw [beq_eq_false_iff_ne]; omega
              have HG : Hid (ohF x = if plB (x.take q, x.drop (q + 2)) then some (x.take q, x.drop (q + 2)) else none) := by show _ = _; rw [unhide HF, if_neg hq]
              have x1 : (str x).extract 0 q = str (x.take q) := cut_to x q
              have x2 : (str x).extract (q + 2) x.length = str (x.drop (q + 2)) := cut_from x (q + 2)
              have hn1 : (x.take q).length ≤ 1000000 := by simp; omega
              have hv1 : (x.drop (q + 2)).length ≤ 1000000 := by simp; omega
              generalize x.take q = nm at *
              generalize x.drop (q + 2) = vl at *
              have HPL : Hid (∀ w, Calls Tryz.prog 61 #[.agg #[.string (str nm), .string (str vl)]] w fun e w' => e = .returned (.bool (plB (nm, vl))) ∧ Hid (Below w.heap.size w w')) := fun w => rplain nm vl w hn1 hv1
              generalize plB (nm, vl) = A at HPL HG
              have hi0 : (0 : Int) ≤ (q : Int) := by omega
              have hi1 : (q : Int) ≤ (x.length : Int) := by omega
              have hi2 : (q : Int) + 2 ≤ (x.length : Int) := by omega
              have hi3 : (0 : Int) ≤ (q : Int) + 2 := by omega
              have hi4 : ((q : Int) + 2).toNat = q + 2 := by omega
              have hw1 : IntKind.i64.wrap ((q : Int) + 2) = (q : Int) + 2 := by rw [IntKind.wrap_i64]; omega
              clear HW2 HF hq
              cases A with
              | false =>
                have HNO : Hid (TT = none) := by show _ = _; rw [unhide HST, unhide HG]; rfl
                clear HST HG
                refine wp_region_held_drew (S := fun _ => True) (by kernel_rfl) trivial (fun hHeld => ?_)
                refine wpAnyH_take (i := 0) (oi := ?_) (v := ?_) ?_ (by kernel_rfl) ?_ ?_ ?_ ?_ hHeld ?_
                rotate_left 2
                · (simp only [List.getElem?_toArray, List.getElem?_cons_zero]) <;> with_reducible rfl
                · kernel_rfl
                · kernel_rfl
                · exact fun _ _ _ h => h
                · exact Or.inl ⟨by rfl, by (intro w hSw; (try dsimp only at hSw); go_simp <;> with_reducible rfl)⟩
                simp only [Act.put, List.setIfInBounds_toArray, List.set_cons_zero, List.set_cons_succ]
                refine wpAnyH_take (i := 1) (oi := ?_) (v := ?_) ?_ (by kernel_rfl) ?_ ?_ ?_ ?_ hHeld ?_
                rotate_left 2
                · (simp only [List.getElem?_toArray, List.getElem?_cons_succ, List.getElem?_cons_zero]) <;> with_reducible rfl
                · kernel_rfl
                · kernel_rfl
                · exact fun _ _ _ h => h
                · exact Or.inl ⟨by rfl, by (intro w hSw; (try dsimp only at hSw); go_simp <;> with_reducible rfl)⟩
                simp only [Act.put, List.setIfInBounds_toArray, List.set_cons_zero, List.set_cons_succ]
                refine wpAnyH_take (i := 2) (oi := ?_) (v := ?_) ?_ (by kernel_rfl) ?_ ?_ ?_ ?_ hHeld ?_
                rotate_left 2
                · (simp only [List.getElem?_toArray, List.getElem?_cons_succ, List.getElem?_cons_zero]) <;> with_reducible rfl
                · kernel_rfl
                · kernel_rfl
                · exact fun _ _ _ h => h
                · exact Or.inl ⟨by rfl, by (intro w hSw; (try dsimp only at hSw); go_simp <;> with_reducible rfl)⟩
                simp only [Act.put, List.setIfInBounds_toArray, List.set_cons_zero, List.set_cons_succ]
                refine wpAnyH_take (i := 3) (oi := ?_) (v := ?_) ?_ (by kernel_rfl) ?_ ?_ ?_ ?_ hHeld ?_
                rotate_left 2
                · (simp only [List.getElem?_toArray, List.getElem?_cons_succ, List.getElem?_cons_zero]) <;> with_reducible rfl
                · kernel_rfl
                · kernel_rfl
                · exact fun _ _ _ h => h
                · exact Or.inl ⟨by rfl, by (intro w hSw; (try dsimp only at hSw); go_simp <;> with_reducible rfl)⟩
                simp only [Act.put, List.setIfInBounds_toArray, List.set_cons_zero, List.set_cons_succ]
                refine wpAnyH_take (i := 4) (oi := ?_) (v := ?_) ?_ (by kernel_rfl) ?_ ?_ ?_ ?_ hHeld ?_
                rotate_left 2
                · (simp only [List.getElem?_toArray, List.getElem?_cons_succ, List.getElem?_cons_zero]) <;> with_reducible rfl
                · kernel_rfl
                · kernel_rfl
                · exact fun _ _ _ h => h
                · exact Or.inl ⟨by rfl, by (intro w hSw; (try dsimp only at hSw); go_simp <;> with_reducible rfl)⟩
                simp only [Act.put, List.setIfInBounds_toArray, List.set_cons_zero, List.set_cons_succ]
                refine wpAnyH_take (i := 5) (oi := ?_) (v := ?_) ?_ (by kernel_rfl) ?_ ?_ ?_ ?_ hHeld ?_
                rotate_left 2
                · (simp only [List.getElem?_toArray, List.getElem?_cons_succ, List.getElem?_cons_zero]) <;> with_reducible rfl
                · kernel_rfl
                · kernel_rfl
                · exact fun _ _ _ h => h
                · exact Or.inl ⟨by rfl, by (intro w hSw; (try dsimp only at hSw); go_simp <;> with_reducible rfl)⟩
                simp only [Act.put, List.setIfInBounds_toArray, List.set_cons_zero, List.set_cons_succ]
                refine wpAnyH_take (i := 6) (oi := ?_) (v := ?_) ?_ (by kernel_rfl) ?_ ?_ ?_ ?_ hHeld ?_
                rotate_left 2
                · (simp only [List.getElem?_toArray, List.getElem?_cons_succ, List.getElem?_cons_zero]) <;> with_reducible rfl
                · kernel_rfl
                · kernel_rfl
                · exact fun _ _ _ h => h
                · exact Or.inl ⟨by rfl, by (intro w hSw; (try dsimp only at hSw); go_simp <;> with_reducible rfl)⟩
                simp only [Act.put, List.setIfInBounds_toArray, List.set_cons_zero, List.set_cons_succ]
                refine wpAnyH_take (i := 7) (oi := ?_) (v := ?_) ?_ (by kernel_rfl) ?_ ?_ ?_ ?_ hHeld ?_
                rotate_left 2
                · (simp only [List.getElem?_toArray, List.getElem?_cons_succ, List.getElem?_cons_zero]) <;> with_reducible rfl
                · kernel_rfl
                · kernel_rfl
                · exact fun _ _ _ h => h
                · exact Or.inl ⟨by rfl, by (intro w hSw; (try dsimp only at hSw); go_simp <;> with_reducible rfl)⟩
                simp only [Act.put, List.setIfInBounds_toArray, List.set_cons_zero, List.set_cons_succ]
                refine wpAnyH_take (i := 8) (oi := ?_) (v := ?_) ?_ (by kernel_rfl) ?_ ?_ ?_ ?_ hHeld ?_
                rotate_left 2
                · (simp only [List.getElem?_toArray, List.getElem?_cons_succ, List.getElem?_cons_zero]) <;> with_reducible rfl
                · kernel_rfl
                · kernel_rfl
                · exact fun _ _ _ h => h
                · exact Or.inl ⟨by rfl, by (intro w hSw; (try dsimp only at hSw); go_simp <;> with_reducible rfl)⟩
                simp only [Act.put, List.setIfInBounds_toArray, List.set_cons_zero, List.set_cons_succ]
                refine wpAnyH_take (i := 9) (oi := ?_) (v := ?_) ?_ (by kernel_rfl) ?_ ?_ ?_ ?_ hHeld ?_
                rotate_left 2
                · (simp only [List.getElem?_toArray, List.getElem?_cons_succ, List.getElem?_cons_zero]) <;> with_reducible rfl
                · kernel_rfl
                · kernel_rfl
                · exact fun _ _ _ h => h
                · exact Or.inl ⟨by rfl, by (intro w hSw; (try dsimp only at hSw); go_simp <;> with_reducible rfl)⟩
                simp only [Act.put, List.setIfInBounds_toArray, List.set_cons_zero, List.set_cons_succ]
                refine wpAnyH_take (i := 10) (oi := ?_) (v := ?_) ?_ (by kernel_rfl) ?_ ?_ ?_ ?_ hHeld ?_
                rotate_left 2
                · (simp only [List.getElem?_toArray, List.getElem?_cons_succ, List.getElem?_cons_zero]) <;> with_reducible rfl
                · kernel_rfl
                · kernel_rfl
                · exact fun _ _ _ h => h
                · exact Or.inl ⟨by rfl, by (intro w hSw; (try dsimp only at hSw); go_simp <;> with_reducible rfl)⟩
                simp only [Act.put, List.setIfInBounds_toArray, List.set_cons_zero, List.set_cons_succ]
                refine wpAnyH_take (i := 11) (oi := ?_) (v := ?_) ?_ (by kernel_rfl) ?_ ?_ ?_ ?_ hHeld ?_
                rotate_left 2
                · (simp only [List.getElem?_toArray, List.getElem?_cons_succ, List.getElem?_cons_zero]) <;> with_reducible rfl
                · kernel_rfl
                · kernel_rfl
                · exact fun _ _ _ h => h
                · exact Or.inl ⟨by rfl, by (intro w hSw; (try dsimp only at hSw); go_simp <;> with_reducible rfl)⟩
                simp only [Act.put, List.setIfInBounds_toArray, List.set_cons_zero, List.set_cons_succ]
                refine wpAnyH_take (i := 12) (oi := ?_) (v := ?_) ?_ (by kernel_rfl) ?_ ?_ ?_ ?_ hHeld ?_
                rotate_left 2
                · (simp only [List.getElem?_toArray, List.getElem?_cons_succ, List.getElem?_cons_zero]) <;> with_reducible rfl
                · kernel_rfl
                · kernel_rfl
                · exact fun _ _ _ h => h
                · exact Or.inl ⟨by rfl, by (intro w hSw; (try dsimp only at hSw); go_simp <;> with_reducible rfl)⟩
                simp only [Act.put, List.setIfInBounds_toArray, List.set_cons_zero, List.set_cons_succ]
                refine wpAnyH_ready (rs := [13]) (by kernel_rfl) (by simp) (AllReadyH.cons (o := ?_) ?_ (fun K hK => ?_) AllReadyH.nil)
                rotate_left 1
                · (simp only [List.getElem?_toArray, List.getElem?_cons_succ, List.getElem?_cons_zero]) <;> with_reducible rfl
                go_simp
                refine (unhide HPL _).mono ?_
                rintro e w6 ⟨rfl, HB6'⟩
                have HS6 : Hid (HeS w w6 g5 s hp hc acc) := (unhide HS).drew.below (unhide HB6')
                clear HB6' hHeld
                refine hK.out _ _ trivial (fun hHeld => ?_)
                clear hK K
                try simp only [Act.put, List.setIfInBounds_toArray, List.set_cons_zero, List.set_cons_succ]
                refine wpAnyH_take (i := 14) (oi := ?_) (v := ?_) ?_ (by kernel_rfl) ?_ ?_ ?_ ?_ hHeld ?_
                rotate_left 2
                · (simp only [List.getElem?_toArray, List.getElem?_cons_succ, List.getElem?_cons_zero]) <;> with_reducible rfl
                · kernel_rfl
                · kernel_rfl
                · exact fun _ _ _ h => h
                · exact Or.inl ⟨by rfl, by (intro w hSw; (try dsimp only at hSw); go_simp <;> with_reducible rfl)⟩
                simp only [Act.put, List.setIfInBounds_toArray, List.set_cons_zero, List.set_cons_succ]
                refine wpAnyH_take (i := 15) (oi := ?_) (v := ?_) ?_ (by kernel_rfl) ?_ ?_ ?_ ?_ hHeld ?_
                rotate_left 2
                · (simp only [List.getElem?_toArray, List.getElem?_cons_succ, List.getElem?_cons_zero]) <;> with_reducible rfl
                · kernel_rfl
                · kernel_rfl
                · exact fun _ _ _ h => h
                · exact Or.inl ⟨by rfl, by (intro w hSw; (try dsimp only at hSw); go_simp <;> with_reducible rfl)⟩
                simp only [Act.put, List.setIfInBounds_toArray, List.set_cons_zero, List.set_cons_succ]
                refine wpAnyH_done (by kernel_rfl) ?_ _

                have HFF : Hid (RAs hd s acc 0 false) := ⟨fun h => (by cases h), fun _ s' H' n' hra => by
                obtain ⟨e2, e3, e4, e5⟩ := (ra_ral (unhide HSP) s' H' n').1 hra
                have e7 := unhide HSU s' e2 e3
                rcases e5 with ⟨_, _, e9⟩ | ⟨e8, _⟩
                · rw [unhide HTT, unhide HNO] at e9; cases e9
                · exact e8 (e7.trans (unhide H101))⟩
                obtain ⟨z0, z1, z2, f0, f1, f2, a0, a1, a2⟩ := (unhide HS6).cells
                obtain ⟨X, hX⟩ : ∃ X, X = ((w6.setCell ⟨w.heap.size, 0, none⟩ (.int .i64 s)).setCell ⟨w.heap.size, 1, none⟩ (.slice hp acc.length hc)).setCell ⟨w.heap.size, 2, none⟩ (.slice none 0 0) := ⟨_, rfl⟩
                obtain ⟨q0, q1, q2, hbX, hhX⟩ := (unhide HS6).ret
                rw [← hX] at q0 q1 q2 hbX hhX
                have HBX := hide hbX
                have HHX := hide hhX
                clear hbX hhX
                go_wp2_with fail
                rw [← hX]
                refine bodyPost_ret (v := .tuple #[.agg #[.int .i64 s, .slice hp acc.length hc, .slice none 0 0], .int .i64 0, .bool false]) (by simp [results, Tryz.results67, go_sem, q0, q1, q2]) rfl ?_
                exact RaP.mk s acc 0 false hp hc rfl HFF HHX HBX

              | true =>
                have HST2 : Hid (TT = ohM (rest.drop (k + 1)) (acc ++ [(nm, vl)])) := by show _ = _; rw [unhide HST, unhide HG]; rfl
                clear HST HG
                refine wp_region_held_drew (S := fun _ => True) (by kernel_rfl) trivial (fun hHeld => ?_)
                refine wpAnyH_take (i := 0) (oi := ?_) (v := ?_) ?_ (by kernel_rfl) ?_ ?_ ?_ ?_ hHeld ?_
                rotate_left 2
                · (simp only [List.getElem?_toArray, List.getElem?_cons_zero]) <;> with_reducible rfl
                · kernel_rfl
                · kernel_rfl
                · exact fun _ _ _ h => h
                · exact Or.inl ⟨by rfl, by (intro w hSw; (try dsimp only at hSw); go_simp <;> with_reducible rfl)⟩
                simp only [Act.put, List.setIfInBounds_toArray, List.set_cons_zero, List.set_cons_succ]
                refine wpAnyH_take (i := 1) (oi := ?_) (v := ?_) ?_ (by kernel_rfl) ?_ ?_ ?_ ?_ hHeld ?_
                rotate_left 2
                · (simp only [List.getElem?_toArray, List.getElem?_cons_succ, List.getElem?_cons_zero]) <;> with_reducible rfl
                · kernel_rfl
                · kernel_rfl
                · exact fun _ _ _ h => h
                · exact Or.inl ⟨by rfl, by (intro w hSw; (try dsimp only at hSw); go_simp <;> with_reducible rfl)⟩
                simp only [Act.put, List.setIfInBounds_toArray, List.set_cons_zero, List.set_cons_succ]
                refine wpAnyH_take (i := 2) (oi := ?_) (v := ?_) ?_ (by kernel_rfl) ?_ ?_ ?_ ?_ hHeld ?_
                rotate_left 2
                · (simp only [List.getElem?_toArray, List.getElem?_cons_succ, List.getElem?_cons_zero]) <;> with_reducible rfl
                · kernel_rfl
                · kernel_rfl
                · exact fun _ _ _ h => h
                · exact Or.inl ⟨by rfl, by (intro w hSw; (try dsimp only at hSw); go_simp <;> with_reducible rfl)⟩
                simp only [Act.put, List.setIfInBounds_toArray, List.set_cons_zero, List.set_cons_succ]
                refine wpAnyH_take (i := 3) (oi := ?_) (v := ?_) ?_ (by kernel_rfl) ?_ ?_ ?_ ?_ hHeld ?_
                rotate_left 2
                · (simp only [List.getElem?_toArray, List.getElem?_cons_succ, List.getElem?_cons_zero]) <;> with_reducible rfl
                · kernel_rfl
                · kernel_rfl
                · exact fun _ _ _ h => h
                · exact Or.inl ⟨by rfl, by (intro w hSw; (try dsimp only at hSw); go_simp <;> with_reducible rfl)⟩
                simp only [Act.put, List.setIfInBounds_toArray, List.set_cons_zero, List.set_cons_succ]
                refine wpAnyH_take (i := 4) (oi := ?_) (v := ?_) ?_ (by kernel_rfl) ?_ ?_ ?_ ?_ hHeld ?_
                rotate_left 2
                · (simp only [List.getElem?_toArray, List.getElem?_cons_succ, List.getElem?_cons_zero]) <;> with_reducible rfl
                · kernel_rfl
                · kernel_rfl
                · exact fun _ _ _ h => h
                · exact Or.inl ⟨by rfl, by (intro w hSw; (try dsimp only at hSw); go_simp <;> with_reducible rfl)⟩
                simp only [Act.put, List.setIfInBounds_toArray, List.set_cons_zero, List.set_cons_succ]
                refine wpAnyH_take (i := 5) (oi := ?_) (v := ?_) ?_ (by kernel_rfl) ?_ ?_ ?_ ?_ hHeld ?_
                rotate_left 2
                · (simp only [List.getElem?_toArray, List.getElem?_cons_succ, List.getElem?_cons_zero]) <;> with_reducible rfl
                · kernel_rfl
                · kernel_rfl
                · exact fun _ _ _ h => h
                · exact Or.inl ⟨by rfl, by (intro w hSw; (try dsimp only at hSw); go_simp <;> with_reducible rfl)⟩
                simp only [Act.put, List.setIfInBounds_toArray, List.set_cons_zero, List.set_cons_succ]
                refine wpAnyH_take (i := 6) (oi := ?_) (v := ?_) ?_ (by kernel_rfl) ?_ ?_ ?_ ?_ hHeld ?_
                rotate_left 2
                · (simp only [List.getElem?_toArray, List.getElem?_cons_succ, List.getElem?_cons_zero]) <;> with_reducible rfl
                · kernel_rfl
                · kernel_rfl
                · exact fun _ _ _ h => h
                · exact Or.inl ⟨by rfl, by (intro w hSw; (try dsimp only at hSw); go_simp <;> with_reducible rfl)⟩
                simp only [Act.put, List.setIfInBounds_toArray, List.set_cons_zero, List.set_cons_succ]
                refine wpAnyH_take (i := 7) (oi := ?_) (v := ?_) ?_ (by kernel_rfl) ?_ ?_ ?_ ?_ hHeld ?_
                rotate_left 2
                · (simp only [List.getElem?_toArray, List.getElem?_cons_succ, List.getElem?_cons_zero]) <;> with_reducible rfl
                · kernel_rfl
                · kernel_rfl
                · exact fun _ _ _ h => h
                · exact Or.inl ⟨by rfl, by (intro w hSw; (try dsimp only at hSw); go_simp <;> with_reducible rfl)⟩
                simp only [Act.put, List.setIfInBounds_toArray, List.set_cons_zero, List.set_cons_succ]
                refine wpAnyH_take (i := 8) (oi := ?_) (v := ?_) ?_ (by kernel_rfl) ?_ ?_ ?_ ?_ hHeld ?_
                rotate_left 2
                · (simp only [List.getElem?_toArray, List.getElem?_cons_succ, List.getElem?_cons_zero]) <;> with_reducible rfl
                · kernel_rfl
                · kernel_rfl
                · exact fun _ _ _ h => h
                · exact Or.inl ⟨by rfl, by (intro w hSw; (try dsimp only at hSw); go_simp <;> with_reducible rfl)⟩
                simp only [Act.put, List.setIfInBounds_toArray, List.set_cons_zero, List.set_cons_succ]
                refine wpAnyH_take (i := 9) (oi := ?_) (v := ?_) ?_ (by kernel_rfl) ?_ ?_ ?_ ?_ hHeld ?_
                rotate_left 2
                · (simp only [List.getElem?_toArray, List.getElem?_cons_succ, List.getElem?_cons_zero]) <;> with_reducible rfl
                · kernel_rfl
                · kernel_rfl
                · exact fun _ _ _ h => h
                · exact Or.inl ⟨by rfl, by (intro w hSw; (try dsimp only at hSw); go_simp <;> with_reducible rfl)⟩
                simp only [Act.put, List.setIfInBounds_toArray, List.set_cons_zero, List.set_cons_succ]
                refine wpAnyH_take (i := 10) (oi := ?_) (v := ?_) ?_ (by kernel_rfl) ?_ ?_ ?_ ?_ hHeld ?_
                rotate_left 2
                · (simp only [List.getElem?_toArray, List.getElem?_cons_succ, List.getElem?_cons_zero]) <;> with_reducible rfl
                · kernel_rfl
                · kernel_rfl
                · exact fun _ _ _ h => h
                · exact Or.inl ⟨by rfl, by (intro w hSw; (try dsimp only at hSw); go_simp <;> with_reducible rfl)⟩
                simp only [Act.put, List.setIfInBounds_toArray, List.set_cons_zero, List.set_cons_succ]
                refine wpAnyH_take (i := 11) (oi := ?_) (v := ?_) ?_ (by kernel_rfl) ?_ ?_ ?_ ?_ hHeld ?_
                rotate_left 2
                · (simp only [List.getElem?_toArray, List.getElem?_cons_succ, List.getElem?_cons_zero]) <;> with_reducible rfl
                · kernel_rfl
                · kernel_rfl
                · exact fun _ _ _ h => h
                · exact Or.inl ⟨by rfl, by (intro w hSw; (try dsimp only at hSw); go_simp <;> with_reducible rfl)⟩
                simp only [Act.put, List.setIfInBounds_toArray, List.set_cons_zero, List.set_cons_succ]
                refine wpAnyH_take (i := 12) (oi := ?_) (v := ?_) ?_ (by kernel_rfl) ?_ ?_ ?_ ?_ hHeld ?_
                rotate_left 2
                · (simp only [List.getElem?_toArray, List.getElem?_cons_succ, List.getElem?_cons_zero]) <;> with_reducible rfl
                · kernel_rfl
                · kernel_rfl
                · exact fun _ _ _ h => h
                · exact Or.inl ⟨by rfl, by (intro w hSw; (try dsimp only at hSw); go_simp <;> with_reducible rfl)⟩
                simp only [Act.put, List.setIfInBounds_toArray, List.set_cons_zero, List.set_cons_succ]
                refine wpAnyH_ready (rs := [13]) (by kernel_rfl) (by simp) (AllReadyH.cons (o := ?_) ?_ (fun K hK => ?_) AllReadyH.nil)
                rotate_left 1
                · (simp only [List.getElem?_toArray, List.getElem?_cons_succ, List.getElem?_cons_zero]) <;> with_reducible rfl
                go_simp
                refine (unhide HPL _).mono ?_
                rintro e w6 ⟨rfl, HB6'⟩
                have HS6 : Hid (HeS w w6 g5 s hp hc acc) := (unhide HS).drew.below (unhide HB6')
                clear HB6' hHeld
                refine hK.out _ _ trivial (fun hHeld => ?_)
                clear hK K
                try simp only [Act.put, List.setIfInBounds_toArray, List.set_cons_zero, List.set_cons_succ]
                refine wpAnyH_take (i := 14) (oi := ?_) (v := ?_) ?_ (by kernel_rfl) ?_ ?_ ?_ ?_ hHeld ?_
                rotate_left 2
                · (simp only [List.getElem?_toArray, List.getElem?_cons_succ, List.getElem?_cons_zero]) <;> with_reducible rfl
                · kernel_rfl
                · kernel_rfl
                · exact fun _ _ _ h => h
                · exact Or.inl ⟨by rfl, by (intro w hSw; (try dsimp only at hSw); go_simp <;> with_reducible rfl)⟩
                simp only [Act.put, List.setIfInBounds_toArray, List.set_cons_zero, List.set_cons_succ]
                refine wpAnyH_take (i := 15) (oi := ?_) (v := ?_) ?_ (by kernel_rfl) ?_ ?_ ?_ ?_ hHeld ?_
                rotate_left 2
                · (simp only [List.getElem?_toArray, List.getElem?_cons_succ, List.getElem?_cons_zero]) <;> with_reducible rfl
                · kernel_rfl
                · kernel_rfl
                · exact fun _ _ _ h => h
                · exact Or.inl ⟨by rfl, by (intro w hSw; (try dsimp only at hSw); go_simp <;> with_reducible rfl)⟩
                simp only [Act.put, List.setIfInBounds_toArray, List.set_cons_zero, List.set_cons_succ]
                refine wpAnyH_done (by kernel_rfl) ?_ _

                clear HPL HS
                obtain ⟨z0, z1, z2, f0, f1, f2, a0, a1, a2⟩ := (unhide HS6).cells
                have HG5 : Hid (g5 < w6.heap.size) := (unhide HS6).lt
                have a1' : (w6.alloc (.cells #[.string (str nm), .string (str vl)] 49)).cell? ⟨g5, 1, none⟩ = some (.slice hp acc.length hc) := ((unhide HS6).below ((Below.refl _ _).alloc (Nat.le_refl _) (.cells #[.string (str nm), .string (str vl)] 49))).cells.2.2.2.2.2.2.2.1
                go_upto_region 24 with fail
                go_region_law (first
                  | (refine stp_apph _ rfl _ _ rfl (g5 + 1) hp hc acc rfl ((unhide HS6).ow.below (hea_b1 w6 _) (Nat.le_refl _)) w6.heap.size 1 (nm, vl) rfl (hea_c0 w6 _ _) (hea_c1 w6 _ _) (by omega) (hea_z (unhide HG5) _) ?_; intro a' cap' r' w' hr' ho' hg'; have hg5 := ((unhide HS6).an2 (unhide hg') g5 (Nat.lt_succ_self _)).trans (unhide HS6).an; have k1 : w'.cell? ⟨g5, 1, none⟩ = some (.slice hp acc.length hc) := cell_of_row _ _ _ _ _ _ hg5; have kf : w'.frozen? ⟨g5, 1, none⟩ = false := frozen_of_row _ _ _ _ _ hg5; clear hg5)
                  | fail)
                all_goals
                  have HS7 : Hid (HeS w (w'.setCell ⟨g5, 1, none⟩ (.slice a' r'.length cap')) g5 s a' cap' r') := (unhide HS6).app (unhide hg') (unhide ho')
                  have HT7 : Hid (TT = ohM (rest.drop (k + 1)) r') := by show _ = _; rw [unhide hr']; exact unhide HST2
                  have hr7 : r'.length ≤ k + 1 := by rw [unhide hr']; simp; omega
                  obtain ⟨w7, hw7⟩ : ∃ v, v = w'.setCell ⟨g5, 1, none⟩ (.slice a' r'.length cap') := ⟨_, rfl⟩
                  rw [← hw7] at HS7 ⊢
                  clear hw7 k1 kf hr' ho' hg' HST2
                  go_wp2_with fail
                  go_roundw
                  case rel => exact ⟨k + 1, by omega, by go_num, a', cap', r', hr7, HT7, HS7⟩
                  case measure => simp [intOf]; omega
          · obtain rfl : k = rest.length := by omega
            have HSO : Hid (TT = some acc) := by
              have := unhide HT
              rw [List.drop_length] at this
              exact this
            have HFF : Hid (RAs hd s acc 0 true) := ⟨fun _ => (ra_ral (unhide HSP) s acc 0).2 ⟨(unhide HS0).1, (unhide HS0).2, hm32, .inl ⟨unhide H101, rfl, (unhide HTT).trans (unhide HSO)⟩⟩, fun h => (by cases h)⟩
            clear hlt HT
            obtain ⟨z0, z1, z2, f0, f1, f2, a0, a1, a2⟩ := (unhide HS).cells
            obtain ⟨X, hX⟩ : ∃ X, X = ((wr.setCell ⟨w.heap.size, 0, none⟩ (.int .i64 s)).setCell ⟨w.heap.size, 1, none⟩ (.slice hp acc.length hc)).setCell ⟨w.heap.size, 2, none⟩ (.slice none 0 0) := ⟨_, rfl⟩
            obtain ⟨q0, q1, q2, hbX, hhX⟩ := (unhide HS).ret
            rw [← hX] at q0 q1 q2 hbX hhX
            have HBX := hide hbX
            have HHX := hide hhX
            clear hbX hhX
            go_wp2_with fail
            rw [← hX]
            refine bodyPost_ret (v := .tuple #[.agg #[.int .i64 s, .slice hp acc.length hc, .slice none 0 0], .int .i64 0, .bool true]) (by simp [results, Tryz.results67, go_sem, q0, q1, q2]) rfl ?_
            exact RaP.mk s acc 0 true hp hc rfl HFF HHX HBX

      have h101b : (s != 101) = true := by rw [bne_iff_ne]; exact h101
      have H101 := hide h101
      clear h101
      by_cases hm0 : m = 0
      · have HFF : Hid (RAs hd s [] 0 false) := ⟨fun h => (by cases h), fun _ s' H' n' hra => by
          obtain ⟨e2, e3, e4, e5⟩ := (ra_ral (unhide HSP) s' H' n').1 hra
          have e7 := unhide HSU s' e2 e3
          rcases e5 with ⟨e8, _⟩ | ⟨_, last', e9, _⟩
          · exact unhide H101 (e7.symm.trans e8)
          · have : rest = [] := List.eq_nil_of_length_eq_zero ((unhide HM).symm.trans hm0)
            rw [this] at e9; cases e9⟩
        subst hm0
        clear z0 z1 z2 f0 f1 f2 a1 a2 HSS
        obtain ⟨z0, z1, z2, f0, f1, f2, a0, a1, a2⟩ := (unhide HS).cells
        obtain ⟨X, hX⟩ : ∃ X, X = ((wr.setCell ⟨w.heap.size, 0, none⟩ (.int .i64 s)).setCell ⟨w.heap.size, 1, none⟩ (.slice none 0 0)).setCell ⟨w.heap.size, 2, none⟩ (.slice none 0 0) := ⟨_, rfl⟩
        obtain ⟨q0, q1, q2, hbX, hhX⟩ := (unhide HS).ret
        simp only [List.length_nil] at q0 q1 q2 hbX hhX
        simp only [List.length_nil] at a1
        rw [← hX] at q0 q1 q2 hbX hhX
        have HBX := hide hbX
        have HHX := hide hhX
        clear hbX hhX
        go_wp2_with fail
        rw [← hX]
        refine bodyPost_ret (v := .tuple #[.agg #[.int .i64 s, .slice none 0 0, .slice none 0 0], .int .i64 0, .bool false]) (by simp [results, Tryz.results67, go_sem, q0, q1, q2]) rfl ?_
        exact RaP.mk s ([] : List Hd) 0 false none 0 rfl HFF HHX HBX

      obtain ⟨k, hk⟩ : ∃ k, m = k + 1 := ⟨m - 1, by omega⟩
      have hrk : rest.length = k + 1 := by rw [← hk]; exact (unhide HM).symm
      obtain ⟨last, hlast⟩ : ∃ last, rest[k]? = some last := ⟨_, List.getElem?_eq_getElem (by omega)⟩
      have HGL : Hid (rest.getLast? = some last) := by
        show _ = _
        rw [List.getLast?_eq_getElem?, hrk]
        exact hlast
      obtain ⟨R2, hR2⟩ : ∃ R2, R2 = rest.take k := ⟨_, rfl⟩
      have hR2l : R2.length = k := by rw [hR2, List.length_take]; omega
      have HR2 : Hid (rest.take (rest.length - 1) = R2) := by show _ = _; rw [hR2, hrk]; rfl
      have hNw := unhide HT2 _ (unhide HN0)
      obtain ⟨b1, off, ha1, hcl⟩ := hNw.mem (by intro e; rw [e] at hrk; simp at hrk)
      subst ha1
      obtain ⟨a2', hh1, hh2⟩ := headS (some ⟨b1, off, none⟩) (k + 1) cr k rest (by omega) (by omega)
      have HNA : Hid (NsO w a2' R2) := by rw [hR2]; exact hh2 _ hNw
      have c9w := hcl k last hlast
      have HXL : Hid (∀ x ∈ R2, x.length ≤ 1000000) := fun x hx => unhide HXX x (by rw [hR2] at hx; exact List.mem_of_mem_take hx)
      have c9 : wr.cell? ⟨b1, off + k, none⟩ = some (.string (str last)) := ((unhide HS).bl.cell (World.block_lt_of_cell? w _ c9w)).trans c9w
      have hll : last.length ≤ 1000000 := unhide HXX last (List.mem_of_getElem? hlast)
      have zl : (str last).size = last.length := str_size last
      have HBE : Hid (∀ w, Calls Tryz.prog 79 #[.string (str last), .string ⟨#[99, 111, 110, 116, 101, 110, 116, 45, 108, 101, 110, 103, 116, 104, 58, 32]⟩] w fun e w' => e = .returned (.bool (pCL.isPrefixOf last)) ∧ w' = w) := fun w => begins_any last pCL w (by omega) (by decide)
      have HOR := hide (olM_ref last)
      have HM9 : Hid (rest.length ≤ 32) := by show _ ≤ _; rw [hrk]; omega
      subst hk
      subst hR2l
      clear hcl hlast hh2 hNw hR2 hrk c9w hm0 HM hm32 z0 z1 z2 f0 f1 f2 a1 a2
      cases hpx : pCL.isPrefixOf last with
      | false =>
        rw [hpx] at HBE HOR
        have HOL : Hid (olM last = none) := unhide HOR
        have HFF : Hid (RAs hd s [] 0 false) := ⟨fun h => (by cases h), fun _ s' H' n' hra => by
          obtain ⟨e2, e3, e4, e5⟩ := (ra_ral (unhide HSP) s' H' n').1 hra
          have e7 := unhide HSU s' e2 e3
          rcases e5 with ⟨e8, _⟩ | ⟨_, last', e9, e10, _⟩
          · exact unhide H101 (e7.symm.trans e8)
          · rw [unhide HGL] at e9
            cases e9
            rw [unhide HOL] at e10
            cases e10⟩
        clear hpx HOR HSS
        go_wp2_with fail
        refine (unhide HBE _).mono ?_
        rintro e w7 ⟨rfl, rfl⟩
        clear HBE
        obtain ⟨z0, z1, z2, f0, f1, f2, a0, a1, a2⟩ := (unhide HS).cells
        obtain ⟨X, hX⟩ : ∃ X, X = ((w7.setCell ⟨w.heap.size, 0, none⟩ (.int .i64 s)).setCell ⟨w.heap.size, 1, none⟩ (.slice none 0 0)).setCell ⟨w.heap.size, 2, none⟩ (.slice none 0 0) := ⟨_, rfl⟩
        obtain ⟨q0, q1, q2, hbX, hhX⟩ := (unhide HS).ret
        simp only [List.length_nil] at q0 q1 q2 hbX hhX
        simp only [List.length_nil] at a1
        rw [← hX] at q0 q1 q2 hbX hhX
        have HBX := hide hbX
        have HHX := hide hhX
        clear hbX hhX
        go_wp2_with fail
        rw [← hX]
        refine bodyPost_ret (v := .tuple #[.agg #[.int .i64 s, .slice none 0 0, .slice none 0 0], .int .i64 0, .bool false]) (by simp [results, Tryz.results67, go_sem, q0, q1, q2]) rfl ?_
        exact RaP.mk s ([] : List Hd) 0 false none 0 rfl HFF HHX HBX

      | true =>
      rw [hpx] at HBE HOR
      have h16 : 16 ≤ last.length := by
        have := (List.isPrefixOf_iff_prefix.1 hpx).length_le
        exact this
      have h16' : (16 : Int) ≤ (last.length : Int) := by omega
      have x16 : (str last).extract 16 last.length = str (last.drop 16) := cut_from last 16
      have hDl : (last.drop 16).length ≤ 1000000 := by simp; omega
      obtain ⟨D, hD⟩ : ∃ D, D = last.drop 16 := ⟨_, rfl⟩
      rw [← hD] at x16 hDl HOR
      have HNU : Hid (∀ w, Calls Tryz.prog 54 #[.string (str D)] w fun e w' => e = .returned (.int .i64 (nuM D)) ∧ Hid (Below w.heap.size w w')) := fun w => number8 D w hDl
      have HOR2 : Hid (olM last = if nuM D < 0 then none else if Lib.decDigits (nuM D).toNat == D then some (nuM D).toNat else none) := unhide HOR
      have HNB : Hid (nuM D = -1 ∨ ∃ n : Nat, nuM D = (n : Int) ∧ n < 1000000000) := by
        unfold nuM
        cases hr : rlM D with
        | none => exact .inl rfl
        | some n => exact .inr ⟨n, rfl, rlM_lt D n hr⟩
      generalize nuM D = nz at HNU HOR2 HNB
      clear hpx hD HOR
      go_wp2_with fail
      refine (unhide HBE _).mono ?_
      rintro e w7 ⟨rfl, rfl⟩
      clear HBE
      go_wp2_with fail
      refine (unhide HNU _).mono ?_
      rintro e w8 ⟨rfl, HB8⟩
      have HS8 := hide ((unhide HS).below (unhide HB8))
      clear HNU HB8 HS HSS c9 a0 x16
      obtain ⟨z0, z1, z2, f0, f1, f2, a0, a1, a2⟩ := (unhide HS8).cells
      clear z0 z1 z2 f0 f1 f2 a0 a1 a2
      by_cases hneg : nz < 0
      · have HOL : Hid (olM last = none) := by show _ = _; rw [unhide HOR2, if_pos hneg]
        have HFF : Hid (RAs hd s [] 0 false) := ⟨fun h => (by cases h), fun _ s' H' n' hra => by
          obtain ⟨e2, e3, e4, e5⟩ := (ra_ral (unhide HSP) s' H' n').1 hra
          have e7 := unhide HSU s' e2 e3
          rcases e5 with ⟨e8, _⟩ | ⟨_, last', e9, e10, _⟩
          · exact unhide H101 (e7.symm.trans e8)
          · rw [unhide HGL] at e9
            cases e9
            rw [unhide HOL] at e10
            cases e10⟩
        clear HOR2 HNB
        obtain ⟨z0, z1, z2, f0, f1, f2, a0, a1, a2⟩ := (unhide HS8).cells
        obtain ⟨X, hX⟩ : ∃ X, X = ((w8.setCell ⟨w.heap.size, 0, none⟩ (.int .i64 s)).setCell ⟨w.heap.size, 1, none⟩ (.slice none 0 0)).setCell ⟨w.heap.size, 2, none⟩ (.slice none 0 0) := ⟨_, rfl⟩
        obtain ⟨q0, q1, q2, hbX, hhX⟩ := (unhide HS8).ret
        simp only [List.length_nil] at q0 q1 q2 hbX hhX
        simp only [List.length_nil] at a1
        rw [← hX] at q0 q1 q2 hbX hhX
        have HBX := hide hbX
        have HHX := hide hhX
        clear hbX hhX
        go_wp2_with fail
        rw [← hX]
        refine bodyPost_ret (v := .tuple #[.agg #[.int .i64 s, .slice none 0 0, .slice none 0 0], .int .i64 0, .bool false]) (by simp [results, Tryz.results67, go_sem, q0, q1, q2]) rfl ?_
        exact RaP.mk s ([] : List Hd) 0 false none 0 rfl HFF HHX HBX

      obtain ⟨n, hn, hn9⟩ : ∃ n : Nat, nz = (n : Int) ∧ n < 1000000000 := by
        rcases unhide HNB with h | h
        · omega
        · exact h
      subst hn
      have HOR3 : Hid (olM last = if Lib.decDigits n == D then some n else none) := by
        show _ = _
        rw [unhide HOR2, if_neg hneg, Int.toNat_natCast]
      have hneg' : ¬ (n : Int) < 0 := hneg
      have HDG : Hid (∀ w, Calls Tryz.prog 63 #[.int .i64 (n : Int)] w fun e w' => e = .returned (.string (str (Lib.decDigits n))) ∧ Hid (Below w.heap.size w w')) := fun w => digits_any n (by omega) w
      have q9 : ((str (Lib.decDigits n)).toList == (str D).toList) = (Lib.decDigits n == D) := by rw [toList_str, toList_str]
      generalize Lib.decDigits n = dg at HDG q9 HOR3
      have q8 : ((str dg).toList != (str D).toList) = !(dg == D) := by show (!((str dg).toList == (str D).toList)) = _; rw [q9]
      clear HOR2 HNB hneg
      cases hdd : (dg == D) with
      | false =>
        rw [hdd] at q9 q8 HOR3
        have HOL : Hid (olM last = none) := unhide HOR3
        have HFF : Hid (RAs hd s [] 0 false) := ⟨fun h => (by cases h), fun _ s' H' n' hra => by
          obtain ⟨e2, e3, e4, e5⟩ := (ra_ral (unhide HSP) s' H' n').1 hra
          have e7 := unhide HSU s' e2 e3
          rcases e5 with ⟨e8, _⟩ | ⟨_, last', e9, e10, _⟩
          · exact unhide H101 (e7.symm.trans e8)
          · rw [unhide HGL] at e9
            cases e9
            rw [unhide HOL] at e10
            cases e10⟩
        clear hdd HOR3
        go_wp2_with fail
        refine (unhide HDG _).mono ?_
        rintro e w9 ⟨rfl, HB9⟩
        have HS9 := hide ((unhide HS8).below (unhide HB9))
        clear HDG HB9 HS8
        obtain ⟨z0, z1, z2, f0, f1, f2, a0, a1, a2⟩ := (unhide HS9).cells
        obtain ⟨X, hX⟩ : ∃ X, X = ((w9.setCell ⟨w.heap.size, 0, none⟩ (.int .i64 s)).setCell ⟨w.heap.size, 1, none⟩ (.slice none 0 0)).setCell ⟨w.heap.size, 2, none⟩ (.slice none 0 0) := ⟨_, rfl⟩
        obtain ⟨q0, q1, q2, hbX, hhX⟩ := (unhide HS9).ret
        simp only [List.length_nil] at q0 q1 q2 hbX hhX
        simp only [List.length_nil] at a1
        rw [← hX] at q0 q1 q2 hbX hhX
        have HBX := hide hbX
        have HHX := hide hhX
        clear hbX hhX
        go_wp2_with fail
        rw [← hX]
        refine bodyPost_ret (v := .tuple #[.agg #[.int .i64 s, .slice none 0 0, .slice none 0 0], .int .i64 0, .bool false]) (by simp [results, Tryz.results67, go_sem, q0, q1, q2]) rfl ?_
        exact RaP.mk s ([] : List Hd) 0 false none 0 rfl HFF HHX HBX

      | true =>
      rw [hdd] at q9 q8 HOR3
      have HOL : Hid (olM last = some n) := unhide HOR3
      clear hdd HOR3
      go_wp2_with fail
      refine (unhide HDG _).mono ?_
      rintro e w9 ⟨rfl, HB9⟩
      have HSS := hide ((unhide HS8).below (unhide HB9))
      clear HDG HB9 HS8
      obtain ⟨ap, hap⟩ : ∃ ap, ap = a2' := ⟨_, rfl⟩
      clear hap
      obtain ⟨TT, hTT⟩ : ∃ TT, ohM R2 [] = TT := ⟨_, rfl⟩
      have HT0 : Hid (TT = ohM (R2.drop 0) []) := by show _ = _; rw [← hTT]; rfl
      have HTT := hide hTT
      clear hTT
      go_wp2_with fail
      go_loopw [83] (fun i wr => ∃ k : Nat, k ≤ R2.length ∧ i = .int .i64 (k : Int) ∧ ∃ (hp : Option Addr) (hc : Nat) (acc : List Hd), acc.length ≤ k ∧ Hid (TT = ohM (R2.drop k) acc) ∧ Hid (HeS w wr g5 s hp hc acc)) (fun i _ => R2.length - (intOf i).toNat)
      case atStart => exact ⟨0, Nat.zero_le _, rfl, none, 0, [], by simp, HT0, HSS⟩
      case round =>
        clear HT0 HSS
        obtain ⟨k, hk, rfl, hp, hc, acc, hacc, HT, HS⟩ := hrel
        by_cases hlt : k < R2.length
        · have hlt' : (k : Int) < (R2.length : Int) := by omega
          obtain ⟨x, hx⟩ : ∃ x, R2[k]? = some x := ⟨_, List.getElem?_eq_getElem hlt⟩
          obtain ⟨b9, off9, hpe, hc9⟩ := ((unhide HNA).below (unhide HS).bl (Nat.le_refl _)).mem (by intro e; rw [e] at hx; simp at hx)
          subst hpe
          have c0 := hc9 k x hx
          have hxl : x.length ≤ 1000000 := unhide HXL x (List.mem_of_getElem? hx)
          have HST : Hid (TT = match ohF x with | some h => ohM (R2.drop (k + 1)) (acc ++ [h]) | none => none) := by show _ = _; rw [unhide HT]; exact ohM_step R2 k x acc hx
          have HF : Hid (ohF x = if whM [58, 32] x = x.length then none else if plB (x.take (whM [58, 32] x), x.drop (whM [58, 32] x + 2)) then some (x.take (whM [58, 32] x), x.drop (whM [58, 32] x + 2)) else none) := ohF_wh x
          have HW2 : Hid (whM [58, 32] x = x.length ∨ whM [58, 32] x + 2 ≤ x.length) := by
            rcases whM_cases [58, 32] x with ⟨_, h⟩ | ⟨i, _, h, h'⟩
            · exact .inl h
            · right; rw [h]; exact h'
          have HWH : Hid (∀ w, Calls Tryz.prog 53 #[.string ⟨#[58, 32]⟩, .string (str x)] w fun e w' => e = .returned (.int .i64 (whM [58, 32] x : Int)) ∧ w' = w) := fun w => where_any [58, 32] x w (by omega) (by decide) (by decide)
          have zx : (str x).size = x.length := str_size x
          generalize whM [58, 32] x = q at HF HW2 HWH
          clear hc9 hx HT
          go_wp2_with fail
          refine (unhide HWH _).mono ?_
          rintro e w5 ⟨rfl, rfl⟩
          clear HWH c0
          go_upto_region 22 with fail
          by_cases hq : q = x.length
          · have e0 : ((q : Int) == (x.length : Int)) = true := by rw [hq]; simp
            have HNO : Hid (TT = none) := by show _ = _; rw [unhide HST, unhide HF, if_pos hq]
            clear HW2 HF HST hq
            refine wp_region_held_drew (S := fun _ => True) (by kernel_rfl) trivial (fun hHeld => ?_)
            refine wpAnyH_take (i := 0) (oi := ?_) (v := ?_) ?_ (by kernel_rfl) ?_ ?_ ?_ ?_ hHeld ?_
            rotate_left 2
            · (simp only [List.getElem?_toArray, List.getElem?_cons_zero]) <;> with_reducible rfl
            · kernel_rfl
            · kernel_rfl
            · exact fun _ _ _ h => h
            · exact Or.inl ⟨by rfl, by (intro w hSw; (try dsimp only at hSw); go_simp <;> with_reducible rfl)⟩
            simp only [Act.put, List.setIfInBounds_toArray, List.set_cons_zero, List.set_cons_succ]
            refine wpAnyH_take (i := 1) (oi := ?_) (v := ?_) ?_ (by kernel_rfl) ?_ ?_ ?_ ?_ hHeld ?_
            rotate_left 2
            · (simp only [List.getElem?_toArray, List.getElem?_cons_succ, List.getElem?_cons_zero]) <;> with_reducible rfl
            · kernel_rfl
            · kernel_rfl
            · exact fun _ _ _ h => h
            · exact Or.inl ⟨by rfl, by (intro w hSw; (try dsimp only at hSw); go_simp <;> with_reducible rfl)⟩
            simp only [Act.put, List.setIfInBounds_toArray, List.set_cons_zero, List.set_cons_succ]
            refine wpAnyH_take (i := 2) (oi := ?_) (v := ?_) ?_ (by kernel_rfl) ?_ ?_ ?_ ?_ hHeld ?_
            rotate_left 2
            · (simp only [List.getElem?_toArray, List.getElem?_cons_succ, List.getElem?_cons_zero]) <;> with_reducible rfl
            · kernel_rfl
            · kernel_rfl
            · exact fun _ _ _ h => h
            · exact Or.inl ⟨by rfl, by (intro w hSw; (try dsimp only at hSw); go_simp <;> with_reducible rfl)⟩
            simp only [Act.put, List.setIfInBounds_toArray, List.set_cons_zero, List.set_cons_succ]
            refine wpAnyH_take (i := 3) (oi := ?_) (v := ?_) ?_ (by kernel_rfl) ?_ ?_ ?_ ?_ hHeld ?_
            rotate_left 2
            · (simp only [List.getElem?_toArray, List.getElem?_cons_succ, List.getElem?_cons_zero]) <;> with_reducible rfl
            · kernel_rfl
            · kernel_rfl
            · exact fun _ _ _ h => h
            · exact Or.inl ⟨by rfl, by (intro w hSw; (try dsimp only at hSw); go_simp <;> with_reducible rfl)⟩
            simp only [Act.put, List.setIfInBounds_toArray, List.set_cons_zero, List.set_cons_succ]
            refine wpAnyH_take (i := 4) (oi := ?_) (v := ?_) ?_ (by kernel_rfl) ?_ ?_ ?_ ?_ hHeld ?_
            rotate_left 2
            · (simp only [List.getElem?_toArray, List.getElem?_cons_succ, List.getElem?_cons_zero]) <;> with_reducible rfl
            · kernel_rfl
            · kernel_rfl
            · exact fun _ _ _ h => h
            · exact Or.inl ⟨by rfl, by (intro w hSw; (try dsimp only at hSw); go_simp <;> with_reducible rfl)⟩
            simp only [Act.put, List.setIfInBounds_toArray, List.set_cons_zero, List.set_cons_succ]
            refine wpAnyH_take (i := 5) (oi := ?_) (v := undef) ?_ (by kernel_rfl) ?_ ?_ ?_ ?_ hHeld ?_
            rotate_left 1
            · (simp only [List.getElem?_toArray, List.getElem?_cons_succ, List.getElem?_cons_zero]) <;> with_reducible rfl
            · kernel_rfl
            · kernel_rfl
            · exact fun _ _ _ h => h
            · exact Or.inr ⟨by rfl, rfl⟩
            simp only [Act.put, List.setIfInBounds_toArray, List.set_cons_zero, List.set_cons_succ]
            refine wpAnyH_take (i := 6) (oi := ?_) (v := undef) ?_ (by kernel_rfl) ?_ ?_ ?_ ?_ hHeld ?_
            rotate_left 1
            · (simp only [List.getElem?_toArray, List.getElem?_cons_succ, List.getElem?_cons_zero]) <;> with_reducible rfl
            · kernel_rfl
            · kernel_rfl
            · exact fun _ _ _ h => h
            · exact Or.inr ⟨by rfl, rfl⟩
            simp only [Act.put, List.setIfInBounds_toArray, List.set_cons_zero, List.set_cons_succ]
            refine wpAnyH_take (i := 7) (oi := ?_) (v := undef) ?_ (by kernel_rfl) ?_ ?_ ?_ ?_ hHeld ?_
            rotate_left 1
            · (simp only [List.getElem?_toArray, List.getElem?_cons_succ, List.getElem?_cons_zero]) <;> with_reducible rfl
            · kernel_rfl
            · kernel_rfl
            · exact fun _ _ _ h => h
            · exact Or.inr ⟨by rfl, rfl⟩
            simp only [Act.put, List.setIfInBounds_toArray, List.set_cons_zero, List.set_cons_succ]
            refine wpAnyH_take (i := 8) (oi := ?_) (v := undef) ?_ (by kernel_rfl) ?_ ?_ ?_ ?_ hHeld ?_
            rotate_left 1
            · (simp only [List.getElem?_toArray, List.getElem?_cons_succ, List.getElem?_cons_zero]) <;> with_reducible rfl
            · kernel_rfl
            · kernel_rfl
            · exact fun _ _ _ h => h
            · exact Or.inr ⟨by rfl, rfl⟩
            simp only [Act.put, List.setIfInBounds_toArray, List.set_cons_zero, List.set_cons_succ]
            refine wpAnyH_take (i := 9) (oi := ?_) (v := undef) ?_ (by kernel_rfl) ?_ ?_ ?_ ?_ hHeld ?_
            rotate_left 1
            · (simp only [List.getElem?_toArray, List.getElem?_cons_succ, List.getElem?_cons_zero]) <;> with_reducible rfl
            · kernel_rfl
            · kernel_rfl
            · exact fun _ _ _ h => h
            · exact Or.inr ⟨by rfl, rfl⟩
            simp only [Act.put, List.setIfInBounds_toArray, List.set_cons_zero, List.set_cons_succ]
            refine wpAnyH_take (i := 10) (oi := ?_) (v := undef) ?_ (by kernel_rfl) ?_ ?_ ?_ ?_ hHeld ?_
            rotate_left 1
            · (simp only [List.getElem?_toArray, List.getElem?_cons_succ, List.getElem?_cons_zero]) <;> with_reducible rfl
            · kernel_rfl
            · kernel_rfl
            · exact fun _ _ _ h => h
            · exact Or.inr ⟨by rfl, rfl⟩
            simp only [Act.put, List.setIfInBounds_toArray, List.set_cons_zero, List.set_cons_succ]
            refine wpAnyH_take (i := 11) (oi := ?_) (v := undef) ?_ (by kernel_rfl) ?_ ?_ ?_ ?_ hHeld ?_
            rotate_left 1
            · (simp only [List.getElem?_toArray, List.getElem?_cons_succ, List.getElem?_cons_zero]) <;> with_reducible rfl
            · kernel_rfl
            · kernel_rfl
            · exact fun _ _ _ h => h
            · exact Or.inr ⟨by rfl, rfl⟩
            simp only [Act.put, List.setIfInBounds_toArray, List.set_cons_zero, List.set_cons_succ]
            refine wpAnyH_take (i := 12) (oi := ?_) (v := undef) ?_ (by kernel_rfl) ?_ ?_ ?_ ?_ hHeld ?_
            rotate_left 1
            · (simp only [List.getElem?_toArray, List.getElem?_cons_succ, List.getElem?_cons_zero]) <;> with_reducible rfl
            · kernel_rfl
            · kernel_rfl
            · exact fun _ _ _ h => h
            · exact Or.inr ⟨by rfl, rfl⟩
            simp only [Act.put, List.setIfInBounds_toArray, List.set_cons_zero, List.set_cons_succ]
            refine wpAnyH_take (i := 13) (oi := ?_) (v := undef) ?_ (by kernel_rfl) ?_ ?_ ?_ ?_ hHeld ?_
            rotate_left 1
            · (simp only [List.getElem?_toArray, List.getElem?_cons_succ, List.getElem?_cons_zero]) <;> with_reducible rfl
            · kernel_rfl
            · kernel_rfl
            · exact fun _ _ _ h => h
            · exact Or.inr ⟨by rfl, rfl⟩
            simp only [Act.put, List.setIfInBounds_toArray, List.set_cons_zero, List.set_cons_succ]
            refine wpAnyH_take (i := 14) (oi := ?_) (v := undef) ?_ (by kernel_rfl) ?_ ?_ ?_ ?_ hHeld ?_
            rotate_left 1
            · (simp only [List.getElem?_toArray, List.getElem?_cons_succ, List.getElem?_cons_zero]) <;> with_reducible rfl
            · kernel_rfl
            · kernel_rfl
            · exact fun _ _ _ h => h
            · exact Or.inr ⟨by rfl, rfl⟩
            simp only [Act.put, List.setIfInBounds_toArray, List.set_cons_zero, List.set_cons_succ]
            refine wpAnyH_take (i := 15) (oi := ?_) (v := ?_) ?_ (by kernel_rfl) ?_ ?_ ?_ ?_ hHeld ?_
            rotate_left 2
            · (simp only [List.getElem?_toArray, List.getElem?_cons_succ, List.getElem?_cons_zero]) <;> with_reducible rfl
            · kernel_rfl
            · kernel_rfl
            · exact fun _ _ _ h => h
            · exact Or.inl ⟨by rfl, by (intro w hSw; (try dsimp only at hSw); go_simp <;> with_reducible rfl)⟩
            simp only [Act.put, List.setIfInBounds_toArray, List.set_cons_zero, List.set_cons_succ]
            refine wpAnyH_done (by kernel_rfl) ?_ _

            have HSD := hide (unhide HS).drew
            obtain ⟨wD, hwD⟩ : ∃ v, v = w5.drew := ⟨_, rfl⟩
            rw [← hwD] at HSD ⊢
            clear hwD
            have HFF : Hid (RAs hd s acc 0 false) := ⟨fun h => (by cases h), fun _ s' H' n' hra => by
              obtain ⟨e2, e3, e4, e5⟩ := (ra_ral (unhide HSP) s' H' n').1 hra
              have e7 := unhide HSU s' e2 e3
              rcases e5 with ⟨e8, _⟩ | ⟨_, last', _, _, e11⟩
              · exact unhide H101 (e7.symm.trans e8)
              · rw [unhide HR2, unhide HTT, unhide HNO] at e11; cases e11⟩
            obtain ⟨z0, z1, z2, f0, f1, f2, a0, a1, a2⟩ := (unhide HSD).cells
            obtain ⟨X, hX⟩ : ∃ X, X = ((wD.setCell ⟨w.heap.size, 0, none⟩ (.int .i64 s)).setCell ⟨w.heap.size, 1, none⟩ (.slice hp acc.length hc)).setCell ⟨w.heap.size, 2, none⟩ (.slice none 0 0) := ⟨_, rfl⟩
            obtain ⟨q0, q1, q2, hbX, hhX⟩ := (unhide HSD).ret
            rw [← hX] at q0 q1 q2 hbX hhX
            have HBX := hide hbX
            have HHX := hide hhX
            clear hbX hhX
            go_wp2_with fail
            rw [← hX]
            refine bodyPost_ret (v := .tuple #[.agg #[.int .i64 s, .slice hp acc.length hc, .slice none 0 0], .int .i64 0, .bool false]) (by simp [results, Tryz.results67, go_sem, q0, q1, q2]) rfl ?_
            exact RaP.mk s acc 0 false hp hc rfl HFF HHX HBX

          · have hq2 : q + 2 ≤ x.length := by have := unhide HW2; omega
            have e0 : ((q : Int) == (x.length : Int)) = false := by rw [beq_eq_false_iff_ne]; omega
            have HG : Hid (ohF x = if plB (x.take q, x.drop (q + 2)) then some (x.take q, x.drop (q + 2)) else none) := by show _ = _; rw [unhide HF, if_neg hq]
            have x1 : (str x).extract 0 q = str (x.take q) := cut_to x q
            have x2 : (str x).extract (q + 2) x.length = str (x.drop (q + 2)) := cut_from x (q + 2)
            have hn1 : (x.take q).length ≤ 1000000 := by simp; omega
            have hv1 : (x.drop (q + 2)).length ≤ 1000000 := by simp; omega
            generalize x.take q = nm at *
            generalize x.drop (q + 2) = vl at *
            have HPL : Hid (∀ w, Calls Tryz.prog 61 #[.agg #[.string (str nm), .string (str vl)]] w fun e w' => e = .returned (.bool (plB (nm, vl))) ∧ Hid (Below w.heap.size w w')) := fun w => rplain nm vl w hn1 hv1
            generalize plB (nm, vl) = A at HPL HG
            have hi0 : (0 : Int) ≤ (q : Int) := by omega
            have hi1 : (q : Int) ≤ (x.length : Int) := by omega
            have hi2 : (q : Int) + 2 ≤ (x.length : Int) := by omega
            have hi3 : (0 : Int) ≤ (q : Int) + 2 := by omega
            have hi4 : ((q : Int) + 2).toNat = q + 2 := by omega
            have hw1 : IntKind.i64.wrap ((q : Int) + 2) = (q : Int) + 2 := by rw [IntKind.wrap_i64]; omega
            clear HW2 HF hq
            cases A with
            | false =>
              have HNO : Hid (TT = none) := by show _ = _; rw [unhide HST, unhide HG]; rfl
              clear HST HG
              refine wp_region_held_drew (S := fun _ => True) (by kernel_rfl) trivial (fun hHeld => ?_)
              refine wpAnyH_take (i := 0) (oi := ?_) (v := ?_) ?_ (by kernel_rfl) ?_ ?_ ?_ ?_ hHeld ?_
              rotate_left 2
              · (simp only [List.getElem?_toArray, List.getElem?_cons_zero]) <;> with_reducible rfl
              · kernel_rfl
              · kernel_rfl
              · exact fun _ _ _ h => h
              · exact Or.inl ⟨by rfl, by (intro w hSw; (try dsimp only at hSw); go_simp <;> with_reducible rfl)⟩
              simp only [Act.put, List.setIfInBounds_toArray, List.set_cons_zero, List.set_cons_succ]
              refine wpAnyH_take (i := 1) (oi := ?_) (v := ?_) ?_ (by kernel_rfl) ?_ ?_ ?_ ?_ hHeld ?_
              rotate_left 2
              · (simp only [List.getElem?_toArray, List.getElem?_cons_succ, List.getElem?_cons_zero]) <;> with_reducible rfl
              · kernel_rfl
              · kernel_rfl
              · exact fun _ _ _ h => h
              · exact Or.inl ⟨by rfl, by (intro w hSw; (try dsimp only at hSw); go_simp <;> with_reducible rfl)⟩
              simp only [Act.put, List.setIfInBounds_toArray, List.set_cons_zero, List.set_cons_succ]
              refine wpAnyH_take (i := 2) (oi := ?_) (v := ?_) ?_ (by kernel_rfl) ?_ ?_ ?_ ?_ hHeld ?_
              rotate_left 2
              · (simp only [List.getElem?_toArray, List.getElem?_cons_succ, List.getElem?_cons_zero]) <;> with_reducible rfl
              · kernel_rfl
              · kernel_rfl
              · exact fun _ _ _ h => h
              · exact Or.inl ⟨by rfl, by (intro w hSw; (try dsimp only at hSw); go_simp <;> with_reducible rfl)⟩
              simp only [Act.put, List.setIfInBounds_toArray, List.set_cons_zero, List.set_cons_succ]
              refine wpAnyH_take (i := 3) (oi := ?_) (v := ?_) ?_ (by kernel_rfl) ?_ ?_ ?_ ?_ hHeld ?_
              rotate_left 2
              · (simp only [List.getElem?_toArray, List.getElem?_cons_succ, List.getElem?_cons_zero]) <;> with_reducible rfl
              · kernel_rfl
              · kernel_rfl
              · exact fun _ _ _ h => h
              · exact Or.inl ⟨by rfl, by (intro w hSw; (try dsimp only at hSw); go_simp <;> with_reducible rfl)⟩
              simp only [Act.put, List.setIfInBounds_toArray, List.set_cons_zero, List.set_cons_succ]
              refine wpAnyH_take (i := 4) (oi := ?_) (v := ?_) ?_ (by kernel_rfl) ?_ ?_ ?_ ?_ hHeld ?_
              rotate_left 2
              · (simp only [List.getElem?_toArray, List.getElem?_cons_succ, List.getElem?_cons_zero]) <;> with_reducible rfl
              · kernel_rfl
              · kernel_rfl
              · exact fun _ _ _ h => h
              · exact Or.inl ⟨by rfl, by (intro w hSw; (try dsimp only at hSw); go_simp <;> with_reducible rfl)⟩
              simp only [Act.put, List.setIfInBounds_toArray, List.set_cons_zero, List.set_cons_succ]
              refine wpAnyH_take (i := 5) (oi := ?_) (v := ?_) ?_ (by kernel_rfl) ?_ ?_ ?_ ?_ hHeld ?_
              rotate_left 2
              · (simp only [List.getElem?_toArray, List.getElem?_cons_succ, List.getElem?_cons_zero]) <;> with_reducible rfl
              · kernel_rfl
              · kernel_rfl
              · exact fun _ _ _ h => h
              · exact Or.inl ⟨by rfl, by (intro w hSw; (try dsimp only at hSw); go_simp <;> with_reducible rfl)⟩
              simp only [Act.put, List.setIfInBounds_toArray, List.set_cons_zero, List.set_cons_succ]
              refine wpAnyH_take (i := 6) (oi := ?_) (v := ?_) ?_ (by kernel_rfl) ?_ ?_ ?_ ?_ hHeld ?_
              rotate_left 2
              · (simp only [List.getElem?_toArray, List.getElem?_cons_succ, List.getElem?_cons_zero]) <;> with_reducible rfl
              · kernel_rfl
              · kernel_rfl
              · exact fun _ _ _ h => h
              · exact Or.inl ⟨by rfl, by (intro w hSw; (try dsimp only at hSw); go_simp <;> with_reducible rfl)⟩
              simp only [Act.put, List.setIfInBounds_toArray, List.set_cons_zero, List.set_cons_succ]
              refine wpAnyH_take (i := 7) (oi := ?_) (v := ?_) ?_ (by kernel_rfl) ?_ ?_ ?_ ?_ hHeld ?_
              rotate_left 2
              · (simp only [List.getElem?_toArray, List.getElem?_cons_succ, List.getElem?_cons_zero]) <;> with_reducible rfl
              · kernel_rfl
              · kernel_rfl
              · exact fun _ _ _ h => h
              · exact Or.inl ⟨by rfl, by (intro w hSw; (try dsimp only at hSw); go_simp <;> with_reducible rfl)⟩
              simp only [Act.put, List.setIfInBounds_toArray, List.set_cons_zero, List.set_cons_succ]
              refine wpAnyH_take (i := 8) (oi := ?_) (v := ?_) ?_ (by kernel_rfl) ?_ ?_ ?_ ?_ hHeld ?_
              rotate_left 2
              · (simp only [List.getElem?_toArray, List.getElem?_cons_succ, List.getElem?_cons_zero]) <;> with_reducible rfl
              · kernel_rfl
              · kernel_rfl
              · exact fun _ _ _ h => h
              · exact Or.inl ⟨by rfl, by (intro w hSw; (try dsimp only at hSw); go_simp <;> with_reducible rfl)⟩
              simp only [Act.put, List.setIfInBounds_toArray, List.set_cons_zero, List.set_cons_succ]
              refine wpAnyH_take (i := 9) (oi := ?_) (v := ?_) ?_ (by kernel_rfl) ?_ ?_ ?_ ?_ hHeld ?_
              rotate_left 2
              · (simp only [List.getElem?_toArray, List.getElem?_cons_succ, List.getElem?_cons_zero]) <;> with_reducible rfl
              · kernel_rfl
              · kernel_rfl
              · exact fun _ _ _ h => h
              · exact Or.inl ⟨by rfl, by (intro w hSw; (try dsimp only at hSw); go_simp <;> with_reducible rfl)⟩
              simp only [Act.put, List.setIfInBounds_toArray, List.set_cons_zero, List.set_cons_succ]
              refine wpAnyH_take (i := 10) (oi := ?_) (v := ?_) ?_ (by kernel_rfl) ?_ ?_ ?_ ?_ hHeld ?_
              rotate_left 2
              · (simp only [List.getElem?_toArray, List.getElem?_cons_succ, List.getElem?_cons_zero]) <;> with_reducible rfl
              · kernel_rfl
              · kernel_rfl
              · exact fun _ _ _ h => h
              · exact Or.inl ⟨by rfl, by (intro w hSw; (try dsimp only at hSw); go_simp <;> with_reducible rfl)⟩
              simp only [Act.put, List.setIfInBounds_toArray, List.set_cons_zero, List.set_cons_succ]
              refine wpAnyH_take (i := 11) (oi := ?_) (v := ?_) ?_ (by kernel_rfl) ?_ ?_ ?_ ?_ hHeld ?_
              rotate_left 2
              · (simp only [List.getElem?_toArray, List.getElem?_cons_succ, List.getElem?_cons_zero]) <;> with_reducible rfl
              · kernel_rfl
              · kernel_rfl
              · exact fun _ _ _ h => h
              · exact Or.inl ⟨by rfl, by (intro w hSw; (try dsimp only at hSw); go_simp <;> with_reducible rfl)⟩
              simp only [Act.put, List.setIfInBounds_toArray, List.set_cons_zero, List.set_cons_succ]
              refine wpAnyH_take (i := 12) (oi := ?_) (v := ?_) ?_ (by kernel_rfl) ?_ ?_ ?_ ?_ hHeld ?_
              rotate_left 2
              · (simp only [List.getElem?_toArray, List.getElem?_cons_succ, List.getElem?_cons_zero]) <;> with_reducible rfl
              · kernel_rfl
              · kernel_rfl
              · exact fun _ _ _ h => h
              · exact Or.inl ⟨by rfl, by (intro w hSw; (try dsimp only at hSw); go_simp <;> with_reducible rfl)⟩
              simp only [Act.put, List.setIfInBounds_toArray, List.set_cons_zero, List.set_cons_succ]
              refine wpAnyH_ready (rs := [13]) (by kernel_rfl) (by simp) (AllReadyH.cons (o := ?_) ?_ (fun K hK => ?_) AllReadyH.nil)
              rotate_left 1
              · (simp only [List.getElem?_toArray, List.getElem?_cons_succ, List.getElem?_cons_zero]) <;> with_reducible rfl
              go_simp
              refine (unhide HPL _).mono ?_
              rintro e w6 ⟨rfl, HB6'⟩
              have HS6 : Hid (HeS w w6 g5 s hp hc acc) := (unhide HS).drew.below (unhide HB6')
              clear HB6' hHeld
              refine hK.out _ _ trivial (fun hHeld => ?_)
              clear hK K
              try simp only [Act.put, List.setIfInBounds_toArray, List.set_cons_zero, List.set_cons_succ]
              refine wpAnyH_take (i := 14) (oi := ?_) (v := ?_) ?_ (by kernel_rfl) ?_ ?_ ?_ ?_ hHeld ?_
              rotate_left 2
              · (simp only [List.getElem?_toArray, List.getElem?_cons_succ, List.getElem?_cons_zero]) <;> with_reducible rfl
              · kernel_rfl
              · kernel_rfl
              · exact fun _ _ _ h => h
              · exact Or.inl ⟨by rfl, by (intro w hSw; (try dsimp only at hSw); go_simp <;> with_reducible rfl)⟩
              simp only [Act.put, List.setIfInBounds_toArray, List.set_cons_zero, List.set_cons_succ]
              refine wpAnyH_take (i := 15) (oi := ?_) (v := ?_) ?_ (by kernel_rfl) ?_ ?_ ?_ ?_ hHeld ?_
              rotate_left 2
              · (simp only [List.getElem?_toArray, List.getElem?_cons_succ, List.getElem?_cons_zero]) <;> with_reducible rfl
              · kernel_rfl
              · kernel_rfl
              · exact fun _ _ _ h => h
              · exact Or.inl ⟨by rfl, by (intro w hSw; (try dsimp only at hSw); go_simp <;> with_reducible rfl)⟩
              simp only [Act.put, List.setIfInBounds_toArray, List.set_cons_zero, List.set_cons_succ]
              refine wpAnyH_done (by kernel_rfl) ?_ _

              have HFF : Hid (RAs hd s acc 0 false) := ⟨fun h => (by cases h), fun _ s' H' n' hra => by
              obtain ⟨e2, e3, e4, e5⟩ := (ra_ral (unhide HSP) s' H' n').1 hra
              have e7 := unhide HSU s' e2 e3
              rcases e5 with ⟨e8, _⟩ | ⟨_, last', _, _, e11⟩
              · exact unhide H101 (e7.symm.trans e8)
              · rw [unhide HR2, unhide HTT, unhide HNO] at e11; cases e11⟩
              obtain ⟨z0, z1, z2, f0, f1, f2, a0, a1, a2⟩ := (unhide HS6).cells
              obtain ⟨X, hX⟩ : ∃ X, X = ((w6.setCell ⟨w.heap.size, 0, none⟩ (.int .i64 s)).setCell ⟨w.heap.size, 1, none⟩ (.slice hp acc.length hc)).setCell ⟨w.heap.size, 2, none⟩ (.slice none 0 0) := ⟨_, rfl⟩
              obtain ⟨q0, q1, q2, hbX, hhX⟩ := (unhide HS6).ret
              rw [← hX] at q0 q1 q2 hbX hhX
              have HBX := hide hbX
              have HHX := hide hhX
              clear hbX hhX
              go_wp2_with fail
              rw [← hX]
              refine bodyPost_ret (v := .tuple #[.agg #[.int .i64 s, .slice hp acc.length hc, .slice none 0 0], .int .i64 0, .bool false]) (by simp [results, Tryz.results67, go_sem, q0, q1, q2]) rfl ?_
              exact RaP.mk s acc 0 false hp hc rfl HFF HHX HBX

            | true =>
              have HST2 : Hid (TT = ohM (R2.drop (k + 1)) (acc ++ [(nm, vl)])) := by show _ = _; rw [unhide HST, unhide HG]; rfl
              clear HST HG
              refine wp_region_held_drew (S := fun _ => True) (by kernel_rfl) trivial (fun hHeld => ?_)
              refine wpAnyH_take (i := 0) (oi := ?_) (v := ?_) ?_ (by kernel_rfl) ?_ ?_ ?_ ?_ hHeld ?_
              rotate_left 2
              · (simp only [List.getElem?_toArray, List.getElem?_cons_zero]) <;> with_reducible rfl
              · kernel_rfl
              · kernel_rfl
              · exact fun _ _ _ h => h
              · exact Or.inl ⟨by rfl, by (intro w hSw; (try dsimp only at hSw); go_simp <;> with_reducible rfl)⟩
              simp only [Act.put, List.setIfInBounds_toArray, List.set_cons_zero, List.set_cons_succ]
              refine wpAnyH_take (i := 1) (oi := ?_) (v := ?_) ?_ (by kernel_rfl) ?_ ?_ ?_ ?_ hHeld ?_
              rotate_left 2
              · (simp only [List.getElem?_toArray, List.getElem?_cons_succ, List.getElem?_cons_zero]) <;> with_reducible rfl
              · kernel_rfl
              · kernel_rfl
              · exact fun _ _ _ h => h
              · exact Or.inl ⟨by rfl, by (intro w hSw; (try dsimp only at hSw); go_simp <;> with_reducible rfl)⟩
              simp only [Act.put, List.setIfInBounds_toArray, List.set_cons_zero, List.set_cons_succ]
              refine wpAnyH_take (i := 2) (oi := ?_) (v := ?_) ?_ (by kernel_rfl) ?_ ?_ ?_ ?_ hHeld ?_
              rotate_left 2
              · (simp only [List.getElem?_toArray, List.getElem?_cons_succ, List.getElem?_cons_zero]) <;> with_reducible rfl
              · kernel_rfl
              · kernel_rfl
              · exact fun _ _ _ h => h
              · exact Or.inl ⟨by rfl, by (intro w hSw; (try dsimp only at hSw); go_simp <;> with_reducible rfl)⟩
              simp only [Act.put, List.setIfInBounds_toArray, List.set_cons_zero, List.set_cons_succ]
              refine wpAnyH_take (i := 3) (oi := ?_) (v := ?_) ?_ (by kernel_rfl) ?_ ?_ ?_ ?_ hHeld ?_
              rotate_left 2
              · (simp only [List.getElem?_toArray, List.getElem?_cons_succ, List.getElem?_cons_zero]) <;> with_reducible rfl
              · kernel_rfl
              · kernel_rfl
              · exact fun _ _ _ h => h
              · exact Or.inl ⟨by rfl, by (intro w hSw; (try dsimp only at hSw); go_simp <;> with_reducible rfl)⟩
              simp only [Act.put, List.setIfInBounds_toArray, List.set_cons_zero, List.set_cons_succ]
              refine wpAnyH_take (i := 4) (oi := ?_) (v := ?_) ?_ (by kernel_rfl) ?_ ?_ ?_ ?_ hHeld ?_
              rotate_left 2
              · (simp only [List.getElem?_toArray, List.getElem?_cons_succ, List.getElem?_cons_zero]) <;> with_reducible rfl
              · kernel_rfl
              · kernel_rfl
              · exact fun _ _ _ h => h
              · exact Or.inl ⟨by rfl, by (intro w hSw; (try dsimp only at hSw); go_simp <;> with_reducible rfl)⟩
              simp only [Act.put, List.setIfInBounds_toArray, List.set_cons_zero, List.set_cons_succ]
              refine wpAnyH_take (i := 5) (oi := ?_) (v := ?_) ?_ (by kernel_rfl) ?_ ?_ ?_ ?_ hHeld ?_
              rotate_left 2
              · (simp only [List.getElem?_toArray, List.getElem?_cons_succ, List.getElem?_cons_zero]) <;> with_reducible rfl
              · kernel_rfl
              · kernel_rfl
              · exact fun _ _ _ h => h
              · exact Or.inl ⟨by rfl, by (intro w hSw; (try dsimp only at hSw); go_simp <;> with_reducible rfl)⟩
              simp only [Act.put, List.setIfInBounds_toArray, List.set_cons_zero, List.set_cons_succ]
              refine wpAnyH_take (i := 6) (oi := ?_) (v := ?_) ?_ (by kernel_rfl) ?_ ?_ ?_ ?_ hHeld ?_
              rotate_left 2
              · (simp only [List.getElem?_toArray, List.getElem?_cons_succ, List.getElem?_cons_zero]) <;> with_reducible rfl
              · kernel_rfl
              · kernel_rfl
              · exact fun _ _ _ h => h
              · exact Or.inl ⟨by rfl, by (intro w hSw; (try dsimp only at hSw); go_simp <;> with_reducible rfl)⟩
              simp only [Act.put, List.setIfInBounds_toArray, List.set_cons_zero, List.set_cons_succ]
              refine wpAnyH_take (i := 7) (oi := ?_) (v := ?_) ?_ (by kernel_rfl) ?_ ?_ ?_ ?_ hHeld ?_
              rotate_left 2
              · (simp only [List.getElem?_toArray, List.getElem?_cons_succ, List.getElem?_cons_zero]) <;> with_reducible rfl
              · kernel_rfl
              · kernel_rfl
              · exact fun _ _ _ h => h
              · exact Or.inl ⟨by rfl, by (intro w hSw; (try dsimp only at hSw); go_simp <;> with_reducible rfl)⟩
              simp only [Act.put, List.setIfInBounds_toArray, List.set_cons_zero, List.set_cons_succ]
              refine wpAnyH_take (i := 8) (oi := ?_) (v := ?_) ?_ (by kernel_rfl) ?_ ?_ ?_ ?_ hHeld ?_
              rotate_left 2
              · (simp only [List.getElem?_toArray, List.getElem?_cons_succ, List.getElem?_cons_zero]) <;> with_reducible rfl
              · kernel_rfl
              · kernel_rfl
              · exact fun _ _ _ h => h
              · exact Or.inl ⟨by rfl, by (intro w hSw; (try dsimp only at hSw); go_simp <;> with_reducible rfl)⟩
              simp only [Act.put, List.setIfInBounds_toArray, List.set_cons_zero, List.set_cons_succ]
              refine wpAnyH_take (i := 9) (oi := ?_) (v := ?_) ?_ (by kernel_rfl) ?_ ?_ ?_ ?_ hHeld ?_
              rotate_left 2
              · (simp only [List.getElem?_toArray, List.getElem?_cons_succ, List.getElem?_cons_zero]) <;> with_reducible rfl
              · kernel_rfl
              · kernel_rfl
              · exact fun _ _ _ h => h
              · exact Or.inl ⟨by rfl, by (intro w hSw; (try dsimp only at hSw); go_simp <;> with_reducible rfl)⟩
              simp only [Act.put, List.setIfInBounds_toArray, List.set_cons_zero, List.set_cons_succ]
              refine wpAnyH_take (i := 10) (oi := ?_) (v := ?_) ?_ (by kernel_rfl) ?_ ?_ ?_ ?_ hHeld ?_
              rotate_left 2
              · (simp only [List.getElem?_toArray, List.getElem?_cons_succ, List.getElem?_cons_zero]) <;> with_reducible rfl
              · kernel_rfl
              · kernel_rfl
              · exact fun _ _ _ h => h
              · exact Or.inl ⟨by rfl, by (intro w hSw; (try dsimp only at hSw); go_simp <;> with_reducible rfl)⟩
              simp only [Act.put, List.setIfInBounds_toArray, List.set_cons_zero, List.set_cons_succ]
              refine wpAnyH_take (i := 11) (oi := ?_) (v := ?_) ?_ (by kernel_rfl) ?_ ?_ ?_ ?_ hHeld ?_
              rotate_left 2
              · (simp only [List.getElem?_toArray, List.getElem?_cons_succ, List.getElem?_cons_zero]) <;> with_reducible rfl
              · kernel_rfl
              · kernel_rfl
              · exact fun _ _ _ h => h
              · exact Or.inl ⟨by rfl, by (intro w hSw; (try dsimp only at hSw); go_simp <;> with_reducible rfl)⟩
              simp only [Act.put, List.setIfInBounds_toArray, List.set_cons_zero, List.set_cons_succ]
              refine wpAnyH_take (i := 12) (oi := ?_) (v := ?_) ?_ (by kernel_rfl) ?_ ?_ ?_ ?_ hHeld ?_
              rotate_left 2
              · (simp only [List.getElem?_toArray, List.getElem?_cons_succ, List.getElem?_cons_zero]) <;> with_reducible rfl
              · kernel_rfl
              · kernel_rfl
              · exact fun _ _ _ h => h
              · exact Or.inl ⟨by rfl, by (intro w hSw; (try dsimp only at hSw); go_simp <;> with_reducible rfl)⟩
              simp only [Act.put, List.setIfInBounds_toArray, List.set_cons_zero, List.set_cons_succ]
              refine wpAnyH_ready (rs := [13]) (by kernel_rfl) (by simp) (AllReadyH.cons (o := ?_) ?_ (fun K hK => ?_) AllReadyH.nil)
              rotate_left 1
              · (simp only [List.getElem?_toArray, List.getElem?_cons_succ, List.getElem?_cons_zero]) <;> with_reducible rfl
              go_simp
              refine (unhide HPL _).mono ?_
              rintro e w6 ⟨rfl, HB6'⟩
              have HS6 : Hid (HeS w w6 g5 s hp hc acc) := (unhide HS).drew.below (unhide HB6')
              clear HB6' hHeld
              refine hK.out _ _ trivial (fun hHeld => ?_)
              clear hK K
              try simp only [Act.put, List.setIfInBounds_toArray, List.set_cons_zero, List.set_cons_succ]
              refine wpAnyH_take (i := 14) (oi := ?_) (v := ?_) ?_ (by kernel_rfl) ?_ ?_ ?_ ?_ hHeld ?_
              rotate_left 2
              · (simp only [List.getElem?_toArray, List.getElem?_cons_succ, List.getElem?_cons_zero]) <;> with_reducible rfl
              · kernel_rfl
              · kernel_rfl
              · exact fun _ _ _ h => h
              · exact Or.inl ⟨by rfl, by (intro w hSw; (try dsimp only at hSw); go_simp <;> with_reducible rfl)⟩
              simp only [Act.put, List.setIfInBounds_toArray, List.set_cons_zero, List.set_cons_succ]
              refine wpAnyH_take (i := 15) (oi := ?_) (v := ?_) ?_ (by kernel_rfl) ?_ ?_ ?_ ?_ hHeld ?_
              rotate_left 2
              · (simp only [List.getElem?_toArray, List.getElem?_cons_succ, List.getElem?_cons_zero]) <;> with_reducible rfl
              · kernel_rfl
              · kernel_rfl
              · exact fun _ _ _ h => h
              · exact Or.inl ⟨by rfl, by (intro w hSw; (try dsimp only at hSw); go_simp <;> with_reducible rfl)⟩
              simp only [Act.put, List.setIfInBounds_toArray, List.set_cons_zero, List.set_cons_succ]
              refine wpAnyH_done (by kernel_rfl) ?_ _

              clear HPL HS
              obtain ⟨z0, z1, z2, f0, f1, f2, a0, a1, a2⟩ := (unhide HS6).cells
              have HG5 : Hid (g5 < w6.heap.size) := (unhide HS6).lt
              have a1' : (w6.alloc (.cells #[.string (str nm), .string (str vl)] 49)).cell? ⟨g5, 1, none⟩ = some (.slice hp acc.length hc) := ((unhide HS6).below ((Below.refl _ _).alloc (Nat.le_refl _) (.cells #[.string (str nm), .string (str vl)] 49))).cells.2.2.2.2.2.2.2.1
              go_upto_region 24 with fail
              go_region_law (first
                | (refine stp_apph _ rfl _ _ rfl (g5 + 1) hp hc acc rfl ((unhide HS6).ow.below (hea_b1 w6 _) (Nat.le_refl _)) w6.heap.size 1 (nm, vl) rfl (hea_c0 w6 _ _) (hea_c1 w6 _ _) (by omega) (hea_z (unhide HG5) _) ?_; intro a' cap' r' w' hr' ho' hg'; have hg5 := ((unhide HS6).an2 (unhide hg') g5 (Nat.lt_succ_self _)).trans (unhide HS6).an; have k1 : w'.cell? ⟨g5, 1, none⟩ = some (.slice hp acc.length hc) := cell_of_row _ _ _ _ _ _ hg5; have kf : w'.frozen? ⟨g5, 1, none⟩ = false := frozen_of_row _ _ _ _ _ hg5; clear hg5)
                | fail)
              all_goals
                have HS7 : Hid (HeS w (w'.setCell ⟨g5, 1, none⟩ (.slice a' r'.length cap')) g5 s a' cap' r') := (unhide HS6).app (unhide hg') (unhide ho')
                have HT7 : Hid (TT = ohM (R2.drop (k + 1)) r') := by show _ = _; rw [unhide hr']; exact unhide HST2
                have hr7 : r'.length ≤ k + 1 := by rw [unhide hr']; simp; omega
                obtain ⟨w7, hw7⟩ : ∃ v, v = w'.setCell ⟨g5, 1, none⟩ (.slice a' r'.length cap') := ⟨_, rfl⟩
                rw [← hw7] at HS7 ⊢
                clear hw7 k1 kf hr' ho' hg' HST2
                go_wp2_with fail
                go_roundw
                case rel => exact ⟨k + 1, by omega, by go_num, a', cap', r', hr7, HT7, HS7⟩
                case measure => simp [intOf]; omega
        · obtain rfl : k = R2.length := by omega
          have HSO : Hid (TT = some acc) := by
            have := unhide HT
            rw [List.drop_length] at this
            exact this
          have HFF : Hid (RAs hd s acc n true) := ⟨fun _ => (ra_ral (unhide HSP) s acc n).2 ⟨(unhide HS0).1, (unhide HS0).2, unhide HM9, .inr ⟨unhide H101, last, unhide HGL, unhide HOL, by rw [unhide HR2]; exact (unhide HTT).trans (unhide HSO)⟩⟩, fun h => (by cases h)⟩
          clear hlt HT
          obtain ⟨z0, z1, z2, f0, f1, f2, a0, a1, a2⟩ := (unhide HS).cells
          obtain ⟨X, hX⟩ : ∃ X, X = ((wr.setCell ⟨w.heap.size, 0, none⟩ (.int .i64 s)).setCell ⟨w.heap.size, 1, none⟩ (.slice hp acc.length hc)).setCell ⟨w.heap.size, 2, none⟩ (.slice none 0 0) := ⟨_, rfl⟩
          obtain ⟨q0, q1, q2, hbX, hhX⟩ := (unhide HS).ret
          rw [← hX] at q0 q1 q2 hbX hhX
          have HBX := hide hbX
          have HHX := hide hhX
          clear hbX hhX
          go_wp2_with fail
          rw [← hX]
          refine bodyPost_ret (v := .tuple #[.agg #[.int .i64 s, .slice hp acc.length hc, .slice none 0 0], .int .i64 (n : Int), .bool true]) (by simp [results, Tryz.results67, go_sem, q0, q1, q2]) rfl ?_
          exact RaP.mk s acc n true hp hc rfl HFF HHX HBX
#print axioms rhead8
end Go.Proofs.YtonaekkenggmbaaGreatDoor
end
