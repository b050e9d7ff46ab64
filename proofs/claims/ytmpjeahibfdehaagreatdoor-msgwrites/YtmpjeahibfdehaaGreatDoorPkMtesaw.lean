/-
  jsonx: rising: the places of names, in the order of the names.; jsonx: hasTwins.; jsonx: checkWithin, Check.
-/
import Derived.Test.YtmpjeahibfdehaaGreatDoorPkMtesav
import Derived.Test.YtmpjeahibfdehaaGreatDoorPkMtesat
import Derived.Laws.OwnMore
import Derived.BigQuiet
section
set_option linter.unusedVariables false
set_option maxRecDepth 1000000
namespace Go.Proofs.YtmpjeahibfdehaaGreatDoor
open Go.RowKit Go.Shelf Go.Sort

/-- Places in memory, in a row of their own that lies from lo on. -/
def OrR (w : World) (lo : Nat) (a : Option Addr) (o : List Nat) : Prop := o ≠ [] → ∃ G cur, a = some ⟨G, 0, none⟩ ∧ lo ≤ G ∧ w.heap[G]? = some (.cells cur 3 (0, 0)) ∧ ∀ (i k : Nat), o[i]? = some k → w.cell? ⟨G, i, none⟩ = some (.int .i64 (k : Int))
theorem Tryz.infoN4 : (Tryz.prog.info? 3).map (fun i => (i.zero, i.size, i.bytes)) = some (some (.int .i64 0), 1, 8) := by kernel_rfl
/-- make([]int, n). -/
theorem mkN4 (n : Nat) (hn : n ≤ 1000000) : ∃ M : Array Value, (∀ W : World, (Instr.makeSlice 152 (.int .i64 (n : Int)) (.int .i64 (n : Int))).run Tryz.prog W = .ok (.slice (some ⟨W.heap.size, 0, none⟩) n n) (W.alloc (.cells M 3))) ∧ M.size = n := by
 obtain ⟨i0, hi, hz0, hz1, hz2⟩ := info_parts Tryz.infoN4
 refine ⟨madeCells (Value.int .i64 0).cells (((n : Nat) : Int).toNat * i0.size), fun W => ?_, ?_⟩
 ·have h := run_make (P := Tryz.prog) W 152 3 i0 _ Tryz.underlying152 hi hz0 .i64 .i64 (n : Int) (n : Int) (by omega) (by omega) (by rw [hz2]; omega) (by omega)
  simpa using h
 ·rw [size_madeCells, hz1]; omega
theorem ofFn_list (n : Nat) : (Array.ofFn (id : Fin n → Fin n)).toList.map Fin.val = List.range n := by
 apply List.ext_getElem?
 intro i
 by_cases h : i < n
 ·rw [List.getElem?_range h, List.getElem?_map, Array.getElem?_toList, Array.getElem?_eq_getElem (by simpa using h)]
  simp
 ·rw [List.getElem?_eq_none (by simp; omega), List.getElem?_eq_none (by simp; omega)]
theorem ext_all {α : Type} (d : Array α) (n : Nat) (h : d.size = n) : d.extract 0 n = d := by subst h; simp
/-- Places that are all there are sorted. -/
theorem sort5 (C B o cap G c : Nat) (cur : Array Value) (ns : List (List UInt8)) (hne : ns ≠ []) (w : World) (hC : w.cell? ⟨C, 0, none⟩ = some (.slice (some ⟨B, o, none⟩) ns.length cap)) (hB : ∀ i s, ns[i]? = some s → w.cell? ⟨B, o + i, none⟩ = some (.string (str s))) (hG : w.heap[G]? = some (.cells cur 3 (0, 0))) (hcs : cur.size = ns.length) (hci : ∀ j, j < ns.length → cur[j]? = some (.int .i64 (j : Int))) (hCG : C ≠ G) (hBG : B ≠ G) (hl : ns.length ≤ 1000000) :
  Calls Tryz.prog 149 #[.slice (some ⟨G, 0, none⟩) ns.length c, .func (.func 150) #[] #[.pointer (some ⟨C, 0, none⟩)]] w fun e w' =>
   e = .returned (.tuple #[]) ∧ Hid (∃ p, RisO ns p ∧ OrR w' G (some ⟨G, 0, none⟩) p) ∧ Hid (w.grownBy w' (some G)) := by
 have hpos : 0 < ns.length := List.length_pos_iff.2 hne
 haveI : Inhabited (Fin ns.length) := ⟨⟨0, hpos⟩⟩
 have hGl : G < w.heap.size := (aI hG).1
 have hH : Holds encF w G 0 (Array.ofFn (id : Fin ns.length → Fin ns.length)) := by
  intro j hj
  have hj' : j < ns.length := by simpa using hj
  refine ⟨?_, frozen_of_row _ _ _ _ _ hG⟩
  rw [cR6 hG, Nat.zero_add, hci j hj', getElem!_pos _ j hj]
  simp [encF]
 have h4 := sort4 C B o cap G c ns w hC hB hH hGl hCG hBG hl
 simp only [Array.size_ofFn] at h4
 refine h4.mono ?_
 rintro e w' ⟨rfl, d', n, os, hp, hso, rfl⟩
 obtain ⟨p1, p2, p3⟩ := hp
 have hsz : d'.size = ns.length := by simpa using p1
 have hperm : d'.toList.Perm (Array.ofFn (id : Fin ns.length → Fin ns.length)).toList := by
  have e1 : d'.extract 0 ns.length = d' := ext_all d' _ hsz
  have e2 : (Array.ofFn (id : Fin ns.length → Fin ns.length)).extract 0 ns.length = Array.ofFn id := ext_all _ _ (by simp)
  rw [e1, e2] at p3
  exact p3
 have hrow : (sortWorld encF w G 0 n d' os).heap[G]? = some (.cells (putCells encF 0 d' cur) 3 (0, 0)) := by
  unfold sortWorld
  rw [heap_grow_old _ _ (by simp [Sort.ahead]; exact hGl)]
  unfold putRow mapBlock
  simp only
  rw [Array.getElem?_modify, if_pos rfl, show (Sort.ahead w n).heap[G]? = w.heap[G]? from rfl, hG]
  rfl
 refine ⟨rfl, ⟨d'.toList.map Fin.val, ⟨?_, ?_⟩, ?_⟩, ?_⟩
 ·have := hperm.map Fin.val
  rwa [ofFn_list] at this
 ·rw [List.pairwise_map, List.pairwise_iff_getElem]
  intro i j hi hj hij
  have hi' : i < d'.size := by simpa using hi
  have hj' : j < d'.size := by simpa using hj
  have h1 := hso i j (Nat.zero_le _) hij (by omega)
  rw [getElem!_pos _ i hi', getElem!_pos _ j hj', lt_cmF] at h1
  have h2 := of_decide_eq_false h1
  unfold leN
  simp only [Array.getElem_toList]
  rw [nmA_get (d'[j]).isLt, nmA_get (d'[i]).isLt]
  exact h2
 ·intro _
  refine ⟨G, _, rfl, Nat.le_refl _, hrow, fun i k hk => ?_⟩
  rw [List.getElem?_map] at hk
  cases hd : d'.toList[i]? with
  | none => rw [hd] at hk; cases hk
  | some x =>
   rw [hd] at hk
   simp only [Option.map_some, Option.some.injEq] at hk
   subst hk
   have hi := (List.getElem?_eq_some_iff.1 hd).1
   have hi' : i < d'.size := by simpa using hi
   rw [cR6 hrow]
   unfold putCells
   rw [Array.getElem?_mapIdx, Array.getElem?_eq_getElem (by omega : i < cur.size)]
   simp only [Option.map_some, Nat.zero_le, true_and, Nat.zero_add, Nat.sub_zero]
   rw [if_pos hi', getElem!_pos _ i hi']
   have hx : d'[i] = x := by rw [Array.getElem?_toList, Array.getElem?_eq_getElem hi'] at hd; exact Option.some.inj hd
   rw [hx]
   rfl
 ·show w.grownBy _ (some G)
  refine ⟨rfl, rfl, rfl, ?_, fun k hk hnk => sw_heap encF w G n k d' os hk (fun e => hnk (by rw [e]))⟩
  unfold sortWorld grow
  simp [Sort.ahead]
/-- What rising hands back. -/
def RiP (w : World) (ns : List (List UInt8)) (e : Ending) (w' : World) : Prop :=
 Below w.heap.size w w' ∧ ∃ a o, e = .returned (.slice a ns.length ns.length) ∧ RisO ns o ∧ OrR w' w.heap.size a o
theorem OrR.lo {w : World} {lo lo' : Nat} {a : Option Addr} {o : List Nat} (h : OrR w lo a o) (hl : lo' ≤ lo) : OrR w lo' a o := by
 intro hne
 obtain ⟨G, cur, h1, h2, h3, h4⟩ := h hne
 exact ⟨G, cur, h1, Nat.le_trans hl h2, h3, h4⟩
set_option maxHeartbeats 4000000 in
theorem rising_any (a : Option Addr) (cap : Nat) (ns : List (List UInt8)) (S : Nat → Prop) (w : World) (h : NsF w S a ns) (hn : ns.length ≤ 1000000) :
  Calls Tryz.prog 115 #[.slice a ns.length cap] w fun e w' => RiP w ns e w' := by
 obtain ⟨n, hnn⟩ : ∃ n, n = ns.length := ⟨_, rfl⟩
 obtain ⟨M, hM, hMs⟩ := mkN4 n (by omega)
 obtain ⟨G, hG⟩ : ∃ G, G = w.heap.size + 1 := ⟨_, rfl⟩
 obtain ⟨C, hC⟩ : ∃ C, C = w.heap.size := ⟨_, rfl⟩
 obtain ⟨W, hW⟩ : ∃ W, W = (w.alloc (.cells #[.slice a n cap] 41)).alloc (.cells M 3) := ⟨_, rfl⟩
 have bW : Below w.heap.size w W := by rw [hW]; exact (bA _).alloc (by simp) _
 have rC : W.heap[C]? = some (.cells #[.slice a n cap] 41 (0, 0)) := by rw [hW, hC, heap_alloc_old _ _ (by simp)]; exact heap_alloc_new _ _
 have rG : W.heap[G]? = some (.cells M 3 (0, 0)) := by rw [hW, hG]; exact heap_alloc2_new _ _ _
 have hCG : C < G := by omega
 have HnW := hide hnn
 have HGW := hide hG
 have HCW := hide hC
 have HbW := hide bW
 have HrC := hide rC
 have HrG := hide rG
 have HMs := hide hMs
 have HN := hide hn
 have HNS := hide h
 rw [← hnn]
 have hn' : n ≤ 1000000 := by omega
 clear h hn hMs bW rC rG hnn
 have hmf : ∀ (fn : Fn) (first cap : Array Value) (w : World), (Instr.makeFunc fn first cap).run Tryz.prog w = .ok (.func fn first cap) w := fun _ _ _ _ => rfl
 go_enter Tryz.func115, Tryz.ntmps115
 go_upto_region 2 with fail
 rw [← hW, ← hG, ← hC]
 clear hW hG hC hM
 go_wp2_with fail
 go_loopw [10] (fun v wr => ∃ (i : Nat) (cu : Array Value), i ≤ n ∧ v = .int .i64 (i : Int) ∧ Hid (wr.heap[G]? = some (.cells cu 3 (0, 0))) ∧ Hid (cu.size = n) ∧ Hid (∀ j, j < i → cu[j]? = some (.int .i64 (j : Int))) ∧ Hid (Below G W wr)) (fun v _ => n - (intOf v).toNat)
 case atStart => exact ⟨0, M, Nat.zero_le _, rfl, HrG, HMs, fun j hj => by omega, hide (Below.refl _ _)⟩
 case round =>
  obtain ⟨i, cu, hi, rfl, HR, HZ, HF, HB⟩ := hrel
  by_cases hlt : i < n
  ·have hlt' : (i : Int) < (n : Int) := by omega
   obtain ⟨x, hx⟩ : ∃ x, cu[i]? = some x := ⟨_, Array.getElem?_eq_getElem (by rw [uh HZ]; exact hlt)⟩
   have c0 : wr.cell? ⟨G, i, none⟩ = some x := by rw [cR6 (uh HR)]; exact hx
   have f0 : wr.frozen? ⟨G, i, none⟩ = false := frozen_of_row _ _ _ _ _ (uh HR)
   have HR' : Hid ((wr.setCell ⟨G, i, none⟩ (.int .i64 (i : Int))).heap[G]? = some (.cells (cu.setIfInBounds i (.int .i64 (i : Int))) 3 (0, 0))) := hS6 (uh HR)
   have HZ' : Hid ((cu.setIfInBounds i (.int .i64 (i : Int))).size = n) := by show _ = _; rw [Array.size_setIfInBounds]; exact uh HZ
   have HF' : Hid (∀ j, j < i + 1 → (cu.setIfInBounds i (.int .i64 (i : Int)))[j]? = some (.int .i64 (j : Int))) := by
    intro j hj
    rw [Array.getElem?_setIfInBounds]
    by_cases hji : i = j
    ·subst hji; rw [if_pos rfl, if_pos (by rw [uh HZ]; exact hlt)]
    ·rw [if_neg hji]; exact uh HF j (by omega)
   have HB' : Hid (Below G W (wr.setCell ⟨G, i, none⟩ (.int .i64 (i : Int)))) := by
    have g := grownBy_setCell wr ⟨G, i, none⟩ (.int .i64 (i : Int))
    have b := uh HB
    exact ⟨g.os.trans b.os, g.tape.trans b.tape, g.output.trans b.output, Nat.le_trans b.size g.size, fun k hk => (Below.heap_setCell _ ⟨G, i, none⟩ _ k (by simp only; omega)).trans (b.block k hk)⟩
   clear hx
   go_wp2_with fail
   go_roundw
   case rel => exact ⟨i + 1, _, by omega, by go_num, HR', HZ', HF', HB'⟩
   case measure => simp [intOf]; omega
  ·have hin : i = n := by omega
   subst hin
   have hlt' : ¬ (i : Int) < (i : Int) := by omega
   have rC' : wr.heap[C]? = some (.cells #[.slice a i cap] 41 (0, 0)) := ((uh HB).block C hCG).trans (uh HrC)
   have HBF : Hid (Below w.heap.size w wr) := (uh HbW).trans ((uh HB).mono (by rw [uh HGW]; omega))
   by_cases hne : ns = []
   ·have h0 : i = 0 := by rw [uh HnW, hne]; rfl
    subst h0
    have HS := hide (sort0 (some ⟨G, 0, none⟩) 0 (.func (.func 150) #[] #[.pointer (some ⟨C, 0, none⟩)]) wr)
    have HE : Hid (RiP w ns (.returned (.slice (some ⟨G, 0, none⟩) 0 0)) wr) := by
     refine ⟨uh HBF, some ⟨G, 0, none⟩, [], by rw [hne]; rfl, ⟨by rw [hne]; exact List.Perm.refl _, List.Pairwise.nil⟩, fun h => absurd rfl h⟩
    clear rC' hne
    go_wp2_with fail
    refine (uh HS).mono ?_
    rintro e w2 ⟨rfl, hw2⟩
    subst hw2
    clear HS
    go_wp2_with fail
    go_ret
    exact uh HE
   ·obtain ⟨B, o, rfl, hSB, hBc⟩ := uh HNS hne
    have hpos : 0 < ns.length := List.length_pos_iff.2 hne
    have hBl : B < w.heap.size := World.block_lt_of_cell? w _ (hBc 0 ns[0] (List.getElem?_eq_getElem hpos))
    have hBG : B ≠ G := by rw [uh HGW]; omega
    have HS := hide (sort5 C B o cap G i cu ns hne wr (by rw [cR6 rC', uh HnW]; rfl) (fun j s hs => by rw [(uh HBF).cell hBl]; exact hBc j s hs) (uh HR) (by rw [uh HZ, uh HnW]) (fun j hj => uh HF j (by rw [uh HnW]; exact hj)) (by omega) hBG (by rw [← uh HnW]; omega))
    rw [← uh HnW] at HS
    have HGl : Hid (w.heap.size ≤ G) := by show _ ≤ _; rw [uh HGW]; omega
    clear rC' hBc hpos hBl hBG hSB
    go_wp2_with fail
    refine (uh HS).mono ?_
    rintro e w2 ⟨rfl, HP, HG⟩
    have HE : Hid (RiP w ns (.returned (.slice (some ⟨G, 0, none⟩) i i)) w2) := by
     obtain ⟨p, h1, h2⟩ := uh HP
     refine ⟨(uh HBF).grown (uh HG) (uh HBF).size (fun j hj => by rw [← Option.some.inj hj]; exact uh HGl), some ⟨G, 0, none⟩, p, by rw [uh HnW], h1, h2.lo (uh HGl)⟩
    clear HS HP HG
    go_wp2_with fail
    go_ret
    exact uh HE
end Go.Proofs.YtmpjeahibfdehaaGreatDoor
end
section
set_option linter.unusedVariables false
set_option maxRecDepth 1000000
namespace Go.Proofs.YtmpjeahibfdehaaGreatDoor
open Go.RowKit

theorem OrR.below {w w' : World} {lo : Nat} {a : Option Addr} {o : List Nat} (h : OrR w lo a o) (hb : Below w.heap.size w w') : OrR w' lo a o := by
 intro hne
 obtain ⟨G, cur, h1, h2, h3, h4⟩ := h hne
 have hl := (aI h3).1
 exact ⟨G, cur, h1, h2, (hb.block G hl).trans h3, fun i k hk => cell_keep (hb.block G hl) (h4 i k hk)⟩
theorem twA_drop (ns : List (List UInt8)) (o : List Nat) (K p q : Nat) (hp : o[K]? = some p) (hq : o[K + 1]? = some q) : twA ns (o.drop K) = (nmA ns p == nmA ns q || twA ns (o.drop (K + 1))) := by
 have h2 := (List.getElem?_eq_some_iff.1 hq).1
 have h1 : K < o.length := by omega
 have e1 : o.drop K = p :: o.drop (K + 1) := by rw [List.drop_eq_getElem_cons h1]; congr 1; exact (List.getElem?_eq_some_iff.1 hp).2
 have e2 : o.drop (K + 1) = q :: o.drop (K + 1 + 1) := by rw [List.drop_eq_getElem_cons h2]; congr 1; exact (List.getElem?_eq_some_iff.1 hq).2
 rw [e1, e2]
 rfl
theorem twA_end (ns : List (List UInt8)) (o : List Nat) (K : Nat) (h : o.length ≤ K + 1) : twA ns (o.drop K) = false := by
 cases hd : o.drop K with
 | nil => rfl
 | cons a r =>
  cases r with
  | nil => rfl
  | cons b r =>
   have : (o.drop K).length = r.length + 2 := by rw [hd]; rfl
   rw [List.length_drop] at this
   omega
set_option maxHeartbeats 4000000 in
theorem hasTwins_any (a : Option Addr) (cap : Nat) (ns : List (List UInt8)) (S : Nat → Prop) (w : World) (h : NsF w S a ns) (hS : ∀ k, S k → k < w.heap.size) (hn : ns.length ≤ 1000000) :
  Calls Tryz.prog 114 #[.slice a ns.length cap] w fun e w' => e = .returned (.bool (!decide ns.Nodup)) ∧ Hid (Below w.heap.size w w') := by
 have HRI := hide (rising_any a cap ns S w h hn)
 have HNS := hide h
 have HSS := hide hS
 obtain ⟨X, hX⟩ : ∃ X, X = !decide ns.Nodup := ⟨_, rfl⟩
 rw [← hX]
 have HX := hide hX
 obtain ⟨n, hnn⟩ : ∃ n, n = ns.length := ⟨_, rfl⟩
 have HnW := hide hnn
 rw [← hnn] at HRI ⊢
 have hn' : n ≤ 1000000 := by omega
 clear h hS hX hnn hn
 go_enter Tryz.func114, Tryz.ntmps114
 go_wp2_with fail
 refine (uh HRI).mono ?_
 rintro e w1 ⟨hB1, a1, o, rfl, hO, hR⟩
 rw [← uh HnW]
 have hol : o.length = n := by rw [uh HnW]; exact hO.len
 have HB1 := hide hB1
 have HO := hide hO
 have HR := hide hR
 have HOL := hide hol
 have HT : Hid (twA ns o = X) := by show _ = _; rw [uh HX]; exact tw_iff hO
 clear hB1 hO hR hol HRI
 go_wp2_with fail
 go_loopw [4] (fun v wr => ∃ (i K : Nat), i = K + 1 ∧ (K ≤ n) ∧ v = .int .i64 (i : Int) ∧ Hid (twA ns (o.drop K) = X) ∧ Hid (Below w1.heap.size w1 wr)) (fun v _ => n + 1 - (intOf v).toNat)
 case atStart => exact ⟨1, 0, rfl, Nat.zero_le _, rfl, HT, hide (Below.refl _ _)⟩
 case round =>
  obtain ⟨i, K, hiK, hK, rfl, HTK, HB⟩ := hrel
  have HBw : Hid (Below w.heap.size w wr) := (uh HB1).trans ((uh HB).mono (uh HB1).size)
  by_cases hlt : i < n
  ·have hlt' : (i : Int) < (n : Int) := by omega
   have hm : (i : Int) - 1 = (K : Int) := by omega
   have hKn : (K : Int) < (n : Int) := by omega
   obtain ⟨p, hp⟩ : ∃ p, o[K]? = some p := ⟨_, List.getElem?_eq_getElem (by rw [uh HOL]; omega)⟩
   obtain ⟨q, hq⟩ : ∃ q, o[i]? = some q := ⟨_, List.getElem?_eq_getElem (by rw [uh HOL]; exact hlt)⟩
   have hone : o ≠ [] := fun e => by rw [e] at hp; simp at hp
   obtain ⟨G, cur, rfl, hlo, hrow, hcell⟩ := ((uh HR).below (uh HB)) hone
   have hnn := uh HnW
   have hpl : p < n := by rw [hnn]; exact (uh HO).lt p (List.mem_of_getElem? hp)
   have hql : q < n := by rw [hnn]; exact (uh HO).lt q (List.mem_of_getElem? hq)
   have hpl' : (p : Int) < (n : Int) := by omega
   have hql' : (q : Int) < (n : Int) := by omega
   have hne : ns ≠ [] := fun e => by rw [hnn, e] at hpl; simp at hpl
   obtain ⟨B, ob, rfl, hSB, hBc⟩ := ((uh HNS).below (uh HBw) (uh HSS)) hne
   have c1 : wr.cell? ⟨G, K, none⟩ = some (.int .i64 (p : Int)) := hcell K p hp
   have c2 : wr.cell? ⟨G, i, none⟩ = some (.int .i64 (q : Int)) := hcell i q hq
   have c3 : wr.cell? ⟨B, ob + p, none⟩ = some (.string (str (nmA ns p))) := hBc p _ (by rw [nmA_get (by omega), List.getElem?_eq_getElem])
   have c4 : wr.cell? ⟨B, ob + q, none⟩ = some (.string (str (nmA ns q))) := hBc q _ (by rw [nmA_get (by omega), List.getElem?_eq_getElem])
   have hstep := twA_drop ns o K p q hp (by rw [← hiK]; exact hq)
   rw [uh HTK, ← hiK] at hstep
   have HSTEP := hide hstep
   have HHK := hide hiK
   obtain ⟨x, hx⟩ : ∃ x, x = nmA ns p := ⟨_, rfl⟩
   obtain ⟨y, hy⟩ : ∃ y, y = nmA ns q := ⟨_, rfl⟩
   rw [← hx] at c3 HSTEP
   rw [← hy] at c4 HSTEP
   clear hp hq hone hrow hcell hnn hpl hql hne hBc hstep hx hy hlo hSB hiK
   have HBd : ∀ n, Hid (Below w1.heap.size w1 (wr.drewN n)) := fun n => hide (bdr4 (uh HB) n)
   have HBwd : ∀ n, Hid (Below w.heap.size w (wr.drewN n)) := fun n => hide (bdr4 (uh HBw) n)
   by_cases hxy : x = y
   ·have e1 : ((str x).toList == (str y).toList) = true := by rw [hxy]; simp
    have HXT : Hid (X = true) := by show _ = _; rw [uh HSTEP, hxy]; simp
    clear hxy
    go_wp2_with fail
    go_quiet (fail)
    go_wp2_with fail
    go_ret
    rw [uh HXT]
    exact ⟨rfl, HBwd _⟩
   ·have e1 : ((str x).toList == (str y).toList) = false := by rw [toList_str, toList_str]; simpa using hxy
    have HT2 : Hid (twA ns (o.drop i) = X) := by
     show _ = _
     have k : X = (x == y || twA ns (o.drop i)) := uh HSTEP
     rw [show (x == y) = false by simpa using hxy] at k
     simpa using k.symm
    clear hxy
    go_wp2_with fail
    go_quiet (fail)
    go_wp2_with fail
    go_roundw
    case rel => exact ⟨i + 1, i, rfl, by omega, by go_num, HT2, HBd _⟩
    case measure => simp [intOf]; omega
  ·have hlt' : ¬ (i : Int) < (n : Int) := by omega
   have HF : Hid (X = false) := by show _ = _; rw [← uh HTK]; exact twA_end ns o K (by rw [uh HOL]; omega)
   clear hiK hlt
   go_wp2_with fail
   go_ret
   rw [uh HF]
   exact ⟨rfl, HBw⟩
end Go.Proofs.YtmpjeahibfdehaaGreatDoor
end
section
set_option linter.unusedVariables false
set_option maxRecDepth 1000000
namespace Go.Proofs.YtmpjeahibfdehaaGreatDoor
open Go.RowKit

/-- A value that is checked within so many. -/
def CkC (around : Nat) (C : Js → Nat) : Prop := ∀ (j : Js) (S : Nat → Prop) (v : Value) (w : World), Tb4 w → JV w S v j → (∀ k, S k → k < w.heap.size) → Sz j → Calls Tryz.prog 80 #[v, .int .i64 (around : Int)] w fun e w' => e = .returned (.int .i64 ((C j : Nat) : Int)) ∧ Hid (Below w.heap.size w w')
def ckX (C : Option (Js → Nat)) : Js → Nat := match C with | none => fun _ => 0 | some C => C
theorem ck_nil (C : Option (Js → Nat)) (k n : Int) (t : List UInt8) (ns : List (List UInt8)) (is : List Js) (h1 : ¬ ((k = 4 ∨ k = 5) ∧ C.isNone = true)) (h2 : wfB (.mk k n t ns is) = true) (h3 : ns.Nodup) : ckF C (.mk k n t ns is) = fsE (ckX C) is ∧ (C = none → is = []) := by
 have key : C = none → is = [] := by
  intro e
  subst e
  have hk : ¬ (k = 4 ∨ k = 5) := fun h => h1 ⟨h, rfl⟩
  have k4 : ¬ k = 4 := fun h => hk (.inl h)
  have k5 : ¬ k = 5 := fun h => hk (.inr h)
  rw [wfB] at h2
  rw [if_neg k4, if_neg k5] at h2
  have e2 : ∀ l : List Js, l.isEmpty = true → l = [] := fun l hl => List.isEmpty_iff.1 hl
  split at h2
  ·simp only [Bool.and_eq_true] at h2; exact e2 _ h2.2
  ·split at h2
   ·simp only [Bool.and_eq_true] at h2; exact e2 _ h2.2
   ·split at h2
    ·simp only [Bool.and_eq_true] at h2; exact e2 _ h2.2
    ·split at h2
     ·simp only [Bool.and_eq_true] at h2; exact e2 _ h2.2
     ·cases h2
 refine ⟨?_, key⟩
 rw [ckF_eq]
 rw [if_neg h1, if_neg (by rw [h2]; simp), if_neg (by simpa using h3)]
 cases C with
 | none => rw [key rfl]; rfl
 | some C => rfl
set_option maxHeartbeats 8000000 in
theorem ckw_core (C : Option (Js → Nat)) (around : Nat) (hA : C = none ↔ 16 ≤ around) (hA2 : around ≤ 16) (hrec : ∀ C', C = some C' → CkC (around + 1) C') : CkC around (ckF C) := by
 intro j S v w hT hJ hS hz
 cases j with
 | mk k n t ns is =>
 simp only [JV] at hJ
 obtain ⟨a1, c1, a2, c2, rfl, hN, hnc, _, _, hic, _, _, hIt⟩ := hJ
 simp only [Sz] at hz
 obtain ⟨hz1, hz2, hz3, hz4, hz5, hz6⟩ := hz
 obtain ⟨V, hV⟩ : ∃ V, V = w.heap.size := ⟨_, rfl⟩
 obtain ⟨W, hW⟩ : ∃ W, W = w.alloc (.cells #[.int .i64 k, .int .i64 n, .string (str t), .slice a1 ns.length c1, .slice a2 is.length c2] 44) := ⟨_, rfl⟩
 have bW : Below w.heap.size w W := by rw [hW]; exact bA _
 have sW : W.heap.size = V + 1 := by rw [hW, hV]; simp
 have rW : W.heap[V]? = some (.cells #[.int .i64 k, .int .i64 n, .string (str t), .slice a1 ns.length c1, .slice a2 is.length c2] 44 (0, 0)) := by rw [hW, hV]; exact heap_alloc_new _ _
 obtain ⟨p0, p1, p2, p3, p4⟩ := cells5 rW
 have HH := hide (holdsItems_any k n (.string (str t)) (.slice a1 ns.length c1) (.slice a2 is.length c2) W)
 have HT := hide hT
 have HN := hide hN
 have HS := hide hS
 have HI := hide hIt
 have HZ6 := hide hz6
 have HZ5 := hide hz5
 have HbW := hide bW
 have HsW := hide sW
 have HrW := hide rW
 have HVW := hide hV
 have HA := hide hA
 have HREC := hide hrec
 obtain ⟨R, hR⟩ : ∃ R, R = ckF C (.mk k n t ns is) := ⟨_, rfl⟩
 have HRR := hide hR
 show Calls _ _ _ _ fun e w' => e = .returned (.int .i64 ((ckF C (.mk k n t ns is) : Nat) : Int)) ∧ _
 rw [← hR]
 have hKeep : ∀ u, Below W.heap.size W u → u.heap[V]? = some (.cells #[.int .i64 k, .int .i64 n, .string (str t), .slice a1 ns.length c1, .slice a2 is.length c2] 44 (0, 0)) := fun u hb => (hb.block V (by omega)).trans rW
 have HK := hide hKeep
 have hBw : ∀ u, Below W.heap.size W u → Below w.heap.size w u := fun u hb => bW.trans (hb.mono bW.size)
 have HBw := hide hBw
 have hinc : (around : Int) + 1 = ((around + 1 : Nat) : Int) := by omega
 clear hT hN hS hIt hz6 hz5 bW sW rW hA hrec hKeep hBw hR
 generalize hbk : decide (k = 4 ∨ k = 5) = bk at HH
 have HBK := hide hbk
 clear hbk
 go_enter Tryz.func80, Tryz.ntmps80
 go_upto_region 1 with fail
 rw [← hW, ← hV]
 clear hW hV
 have hinc0 := hide hinc
 clear hinc
 by_cases hdeep : bk = true ∧ 16 ≤ around
 ·obtain ⟨rfl, hd⟩ := hdeep
  have hd' : (16 : Int) ≤ (around : Int) := by omega
  have HE : Hid (R = 41) := by
   show _ = _
   rw [uh HRR]
   rw [ckF_eq]
   rw [if_pos ⟨of_decide_eq_true (uh HBK), by rw [(uh HA).2 hd]; rfl⟩]
  go_wp2_with fail
  refine (uh HH).mono ?_
  rintro e w1 ⟨rfl, hb1⟩
  have HF := hide (uh HBw w1 (uh hb1))
  clear HH hb1 p0 p1 p2 p3 p4
  go_wp2_with fail
  go_ret
  rw [uh HE]
  exact ⟨rfl, HF⟩
 ·have hnot : ¬ ((k = 4 ∨ k = 5) ∧ C.isNone = true) := by
   rintro ⟨h1, h2⟩
   exact hdeep ⟨by rw [← uh HBK]; exact decide_eq_true h1, (uh HA).1 (Option.isNone_iff_eq_none.1 h2)⟩
  have hdd : bk = false ∨ bk = true ∧ ¬ (16 : Int) ≤ (around : Int) := by
   cases bk with
   | false => exact .inl rfl
   | true => exact .inr ⟨rfl, by have : ¬ 16 ≤ around := fun h => hdeep ⟨rfl, h⟩; omega⟩
  have HNOT := hide hnot
  clear hdeep hnot
  rcases hdd with rfl | ⟨rfl, hd'⟩
  all_goals
   go_wp2_with fail
   refine (uh HH).mono ?_
   rintro e w1 ⟨rfl, HB1⟩
   clear HH p0 p1 p2 p3 p4
   have HWF := hide (isWF_any k n t ns is a1 c1 a2 c2 S w1 ((uh HT).below (uh HBw w1 (uh HB1))) ((uh HN).below (uh HBw w1 (uh HB1)) (uh HS)) (fun k hk => Nat.lt_of_lt_of_le (uh HS k hk) (uh HBw w1 (uh HB1)).size) (uh HZ5) hz2 hz3)
   obtain ⟨p0, p1, p2, p3, p4⟩ := cells5 (uh HK w1 (uh HB1))
   generalize hwf : wfB (.mk k n t ns is) = wf at HWF
   have HWFE := hide hwf
   clear hwf
   have HR1 : Hid (wf = false → R = 1) := by
    intro e
    rw [uh HRR]
    rw [ckF_eq]
    rw [if_neg (uh HNOT), if_pos (by rw [uh HWFE]; exact e)]
   go_wp2_with fail
   refine (uh HWF).mono ?_
   rintro e w2 ⟨rfl, hb2⟩
   have HB2 : Hid (Below W.heap.size W w2) := (uh HB1).trans ((uh hb2).mono (uh HB1).size)
   clear HWF hb2 p0 p1 p2 p3 p4
   have HF2 := hide (uh HBw w2 (uh HB2))
   obtain ⟨p0, p1, p2, p3, p4⟩ := cells5 (uh HK w2 (uh HB2))
   cases wf with
   | false =>
    have HE := hide (uh HR1 rfl)
    clear HR1 HWFE
    go_wp2_with fail
    go_ret
    rw [uh HE]
    exact ⟨rfl, HF2⟩
   | true =>
    clear HR1
    have HTW := hide (hasTwins_any a1 c1 ns S w2 ((uh HN).below (uh HF2) (uh HS)) (fun k hk => Nat.lt_of_lt_of_le (uh HS k hk) (uh HF2).size) (by omega))
    generalize htw : (!decide ns.Nodup) = tw at HTW
    have HTWE := hide htw
    clear htw
    go_wp2_with fail
    refine (uh HTW).mono ?_
    rintro e w3 ⟨rfl, hb3⟩
    have HB3 : Hid (Below W.heap.size W w3) := (uh HB2).trans ((uh hb3).mono (uh HB2).size)
    clear HTW hb3 p0 p1 p2 p3 p4
    have HF3 := hide (uh HBw w3 (uh HB3))
    obtain ⟨p0, p1, p2, p3, p4⟩ := cells5 (uh HK w3 (uh HB3))
    cases tw with
    | true =>
     have HE : Hid (R = 43) := by
      show _ = _
      rw [uh HRR]
      rw [ckF_eq]
      rw [if_neg (uh HNOT), if_neg (by rw [uh HWFE]; simp), if_pos (by have := uh HTWE; simpa using this)]
     go_wp2_with fail
     go_ret
     rw [uh HE]
     exact ⟨rfl, HF3⟩
    | false =>
     have hnd : ns.Nodup := by have := uh HTWE; simpa using this
     obtain ⟨hck, hcn⟩ := ck_nil C k n t ns is (uh HNOT) (uh HWFE) hnd
     have HCK : Hid (R = fsE (ckX C) is) := (uh HRR).trans hck
     have HCN := hide hcn
     clear hnd hck hcn HTWE HWFE
     obtain ⟨m, hm⟩ : ∃ m, m = is.length := ⟨_, rfl⟩
     have HM := hide hm
     rw [← hm] at p4 hic
     have hm9 : m ≤ 100000 := by omega
     clear hm p0 p1 p2 p3
     go_wp2_with fail
     clear p4
     go_loopw [23] (fun v wr => ∃ i : Nat, i ≤ m ∧ v = .int .i64 (i : Int) ∧ Hid (R = fsE (ckX C) (is.drop i)) ∧ Hid (Below W.heap.size W wr)) (fun v _ => m - (intOf v).toNat)
     case atStart => exact ⟨0, Nat.zero_le _, rfl, HCK, HB3⟩
     case round =>
      obtain ⟨i, hi, rfl, HQ, HB⟩ := hrel
      have HFr := hide (uh HBw wr (uh HB))
      by_cases hlt : i < m
      ·have hlt' : (i : Int) < (m : Int) := by omega
       obtain ⟨jj, hjj⟩ : ∃ jj, is[i]? = some jj := ⟨_, List.getElem?_eq_getElem (by rw [← uh HM]; exact hlt)⟩
       have hne : is ≠ [] := fun e => by rw [e] at hjj; simp at hjj
       obtain ⟨C', hC'⟩ : ∃ C', C = some C' := by
        cases hc : C with
        | none => exact absurd (uh HCN hc) hne
        | some C' => exact ⟨C', rfl⟩
       have hel := ((jvs_iff w S a2 is 0).1 (uh HI) i jj hjj).keep (fun k hk => ⟨hk, (uh HFr).block k (uh HS k hk)⟩)
       rw [Nat.zero_add] at hel
       obtain ⟨b, off, v0, v1, v2, v3, v4, rfl, hSb, g0, g1, g2, g3, g4, hj⟩ := hel
       obtain ⟨jk, jn, jt, ja1, jn1, jc1, ja2, jn2, jc2, e⟩ := hj.form
       simp only [Value.agg.injEq, Array.mk.injEq, List.cons.injEq, and_true] at e
       obtain ⟨rfl, rfl, rfl, rfl, rfl⟩ := e
       have hdr : is.drop i = jj :: is.drop (i + 1) := by
        have hl2 := (List.getElem?_eq_some_iff.1 hjj).1
        rw [List.drop_eq_getElem_cons hl2]; congr 1; exact (List.getElem?_eq_some_iff.1 hjj).2
       obtain ⟨U, hU⟩ : ∃ U, U = wr.alloc (.cells #[.int .i64 jk, .int .i64 jn, .string (str jt), .slice ja1 jn1 jc1, .slice ja2 jn2 jc2] 44) := ⟨_, rfl⟩
       have bU : Below wr.heap.size wr U := by rw [hU]; exact bA _
       have bWU : Below W.heap.size W U := (uh HB).trans (bU.mono (uh HB).size)
       have HC := hide (uh HREC C' hC' jj S _ U ((uh HT).below (uh HBw U bWU)) (JV.keep (fun k hk => ⟨hk, bU.block k (Nat.lt_of_lt_of_le (uh HS k hk) (uh HFr).size)⟩) _ _ hj) (fun k hk => Nat.lt_of_lt_of_le (uh HS k hk) (uh HBw U bWU).size) ((szs_iff is).1 (uh HZ6) jj (List.mem_of_getElem? hjj)))
       have HBU := hide bWU
       have hx : ckX C jj = C' jj := by rw [hC']; rfl
       have HQ2 : Hid (R = if C' jj = 0 then fsE (ckX C) (is.drop (i + 1)) else C' jj) := by
        show _ = _
        rw [uh HQ, hdr]
        show (if ckX C jj = 0 then fsE (ckX C) (is.drop (i + 1)) else ckX C jj) = _
        rw [hx]
       generalize C' jj = E at HC HQ2
       have rU : U.heap[wr.heap.size]? = some (.cells #[.int .i64 jk, .int .i64 jn, .string (str jt), .slice ja1 jn1 jc1, .slice ja2 jn2 jc2] 44 (0, 0)) := by rw [hU]; exact heap_alloc_new _ _
       obtain ⟨Z, hZ⟩ : ∃ Z, Z = wr.heap.size := ⟨_, rfl⟩
       rw [← hZ] at rU
       obtain ⟨d0, d1, d2, d3, d4⟩ := cells5 rU
       clear hjj hne hC' hj hdr bU bWU hx rU hSb
       go_upto_region 10 with fail
       rw [← hU, ← hZ]
       clear hU hZ g0 g1 g2 g3 g4
       rw [← uh hinc0] at HC
       go_wp2_with fail
       refine (uh HC).mono ?_
       rintro e w5 ⟨rfl, hb5⟩
       have HB5 : Hid (Below W.heap.size W w5) := (uh HBU).trans ((uh hb5).mono (uh HBU).size)
       clear HC hb5 d0 d1 d2 d3 d4
       by_cases hE : E = 0
       ·have hE0 : (((E : Nat) : Int) != 0) = false := by rw [hE]; rfl
        have HQ3 : Hid (R = fsE (ckX C) (is.drop (i + 1))) := by show _ = _; rw [uh HQ2, if_pos hE]
        clear hE
        go_wp2_with fail
        go_roundw
        case rel => exact ⟨i + 1, by omega, by go_num, HQ3, HB5⟩
        case measure => simp [intOf]; omega
       ·have hE0 : (((E : Nat) : Int) != 0) = true := by simp; omega
        have HQ3 : Hid (R = E) := by show _ = _; rw [uh HQ2, if_neg hE]
        have HF5 := hide (uh HBw w5 (uh HB5))
        clear hE
        go_wp2_with fail
        go_ret
        rw [uh HQ3]
        exact ⟨rfl, HF5⟩
      ·have hlt' : ¬ (i : Int) < (m : Int) := by omega
       have HE : Hid (R = 0) := by show _ = _; rw [uh HQ, List.drop_eq_nil_of_le (by rw [← uh HM]; omega)]; rfl
       clear hlt
       go_wp2_with fail
       go_ret
       rw [uh HE]
       exact ⟨rfl, HFr⟩
theorem ckw_any : ∀ (n around : Nat), around + n = 16 → CkC around (ck n)
 | 0, around, h => ckw_core none around ⟨fun _ => by omega, fun _ => rfl⟩ (by omega) (fun C' e => by cases e)
 | n + 1, around, h => ckw_core (some (ck n)) around ⟨fun e => (by cases e), fun hh => by omega⟩ (by omega) (fun C' e => by cases e; exact ckw_any n (around + 1) (by omega))
set_option maxHeartbeats 2000000 in
theorem checkJ_any (j : Js) (S : Nat → Prop) (v : Value) (w : World) (hT : Tb4 w) (hJ : JV w S v j) (hS : ∀ k, S k → k < w.heap.size) (hz : Sz j) :
  Calls Tryz.prog 34 #[v] w fun e w' => e = .returned (.int .i64 ((ck 16 j : Nat) : Int)) ∧ Hid (Below w.heap.size w w') := by
 obtain ⟨k, n, t, a1, n1, c1, a2, n2, c2, rfl⟩ := hJ.form
 obtain ⟨W, hW⟩ : ∃ W, W = w.alloc (.cells #[.int .i64 k, .int .i64 n, .string (str t), .slice a1 n1 c1, .slice a2 n2 c2] 44) := ⟨_, rfl⟩
 obtain ⟨V, hV⟩ : ∃ V, V = w.heap.size := ⟨_, rfl⟩
 have bW : Below w.heap.size w W := by rw [hW]; exact bA _
 have rW : W.heap[V]? = some (.cells #[.int .i64 k, .int .i64 n, .string (str t), .slice a1 n1 c1, .slice a2 n2 c2] 44 (0, 0)) := by rw [hW, hV]; exact heap_alloc_new _ _
 obtain ⟨p0, p1, p2, p3, p4⟩ := cells5 rW
 have HC := hide (ckw_any 16 0 rfl j S _ W (hT.below bW) (JV.keep (fun k hk => ⟨hk, bW.block k (hS k hk)⟩) _ _ hJ) (fun k hk => Nat.lt_of_lt_of_le (hS k hk) bW.size) hz)
 rw [show ((0 : Nat) : Int) = 0 from rfl] at HC
 generalize ck 16 j = E at HC ⊢
 have HB := hide bW
 clear hT hJ hS hz rW bW
 go_enter Tryz.func34, Tryz.ntmps34
 go_upto_region 1 with fail
 rw [← hW, ← hV]
 clear hW hV
 go_wp2_with fail
 refine (uh HC).mono ?_
 rintro e w1 ⟨rfl, h1⟩
 have HF : Hid (Below w.heap.size w w1) := (uh HB).trans ((uh h1).mono (uh HB).size)
 clear HC h1 p0 p1 p2 p3 p4
 go_wp2_with fail
 go_ret
 exact ⟨rfl, HF⟩
end Go.Proofs.YtmpjeahibfdehaaGreatDoor
end
