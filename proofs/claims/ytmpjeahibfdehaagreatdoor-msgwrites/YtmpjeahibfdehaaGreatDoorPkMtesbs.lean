/-
  msg: the document's Write of a push.; msg: the document's Write of what is no push.; msg: MsgWrites.
-/
import Derived.Test.YtmpjeahibfdehaaGreatDoorPkMtesbm
import Derived.Test.YtmpjeahibfdehaaGreatDoorPkMtesbr
import Derived.Deep.RegionHeld3
import Derived.Test.YtmpjeahibfdehaaGreatDoorPkMtesbk
section
set_option linter.unusedVariables false
set_option maxRecDepth 1000000
namespace Go.Proofs.YtmpjeahibfdehaaGreatDoor
open Go.RowKit

set_option maxHeartbeats 32000000 in
theorem rwr1 (m : Mg) (a : Option Addr) (n c : Nat) (w : World) (hl : LRow w a n m.l) (hn9 : n ≤ 1000000) (hc : m.c.length ≤ 9223372036854775807) (hx : ∀ x ∈ m.l, LgL x) (hi : MiZ m) (hk : m.k = 1) :
  Calls Tryz.prog 22 #[mgV m a n c] w fun e w' => e = .returned (.tuple #[.string (str (wrM m).1), .int .i64 (((wrM m).2 : Nat) : Int)]) ∧ Hid (Below w.heap.size w w') := by
 obtain ⟨X, hX⟩ : ∃ X, X = w.heap.size := ⟨_, rfl⟩
 obtain ⟨W, hW⟩ : ∃ W, W = w.alloc (.cells #[.int .i64 m.k, .string (str m.c), .int .i64 m.fr, .int .i64 m.co, .int .i64 m.la, .int .i64 m.top, .slice a n c] 24) := ⟨_, rfl⟩
 have bW : Below w.heap.size w W := by rw [hW]; exact bA _
 have rX : W.heap[X]? = some (.cells #[.int .i64 m.k, .string (str m.c), .int .i64 m.fr, .int .i64 m.co, .int .i64 m.la, .int .i64 m.top, .slice a n c] 24 (0, 0)) := by rw [hW, hX]; exact heap_alloc_new _ _
 have HBW := hide bW
 have HX : Hid (∀ u, Below W.heap.size W u → u.heap[X]? = some (.cells #[.int .i64 m.k, .string (str m.c), .int .i64 m.fr, .int .i64 m.co, .int .i64 m.la, .int .i64 m.top, .slice a n c] 24 (0, 0))) := fun u hb => (hb.block X (aI rX).1).trans rX
 have HL : Hid (∀ u, Below W.heap.size W u → LRow u a n m.l) := fun u hb => (hl.below bW).below hb
 have HCK := hide (rcheck13 m a n c W (hl.below bW) hn9 hc hx hi)
 have HN : Hid (n = m.l.length) := hl.1
 unfold mgV at HCK ⊢
 obtain ⟨M, hM⟩ : ∃ M, M = wrM m := ⟨_, rfl⟩
 rw [← hM]
 obtain ⟨E, hE⟩ : ∃ E : Int, E = if mayBeM m = true then 0 else 130 := ⟨_, rfl⟩
 rw [← hE] at HCK
 obtain ⟨p0, p1, p2, p3, p4, p5, p6⟩ := cells7 rX
 have HK := hide hk
 have HI := hide hi
 have HXL := hide hx
 have HM := hide hM
 have HE := hide hE
 clear hl hc hx hi hk bW rX hM hE
 go_enter Tryz.func22, Tryz.ntmps22
 go_upto_region 1 with fail
 rw [← hW, ← hX]
 clear hW hX
 go_wp2_with fail
 refine (uh HCK).mono ?_
 rintro e u1 ⟨rfl, h1⟩
 have HB1 : Hid (Below W.heap.size W u1) := h1
 clear HCK h1
 cases hb : mayBeM m with
 | false =>
  obtain rfl : E = 130 := by rw [uh HE, hb]; rfl
  have HF : Hid (M = ([], 130)) := by show _ = _; rw [uh HM]; unfold wrM; rw [hb]; rfl
  clear HE HM HX HL HXL hb
  go_wp2_with fail
  go_ret2
  exact ⟨by rw [uh HF]; try rfl, (uh HBW).trans ((uh HB1).mono (uh HBW).size)⟩
 | true =>
 obtain rfl : E = 0 := by rw [uh HE, hb]; rfl
 have HB := hide hb
 clear HE hb
 clear p0 p1 p2 p3 p4 p5 p6
 obtain ⟨p0, p1, p2, p3, p4, p5, p6⟩ := cells7 (uh HX u1 (uh HB1))
 have n8 : n ≤ 8 := by have := (may_all (uh HB)).1; have := uh HN; omega
 have HO0 : Hid (OwnT u1 W.heap.size none 0 []) := ⟨rfl, .inl ⟨rfl, rfl⟩⟩
 go_wp2_with fail
 clear p0 p1 p2 p3 p4 p5 p6
 go_loopw [4, 15] (fun vo v wr => ∃ (q : Nat) (L : List (List UInt8)) (a2 : Option Addr) (c2 : Nat), q ≤ n ∧ vo = .slice a2 q c2 ∧ v = .int .i64 (q : Int) ∧ Hid (L = (m.l.take q).map (elT m.k)) ∧ Hid (q = L.length) ∧ Hid (OwnT wr W.heap.size a2 c2 L) ∧ Hid (Below W.heap.size W wr)) (fun _ v _ => n - (intOf v).toNat)
 case atStart => exact ⟨0, [], none, 0, Nat.zero_le _, rfl, rfl, by show _ = _; simp, rfl, HO0, HB1⟩
 case round =>
  clear HO0 HB1
  obtain ⟨q, L, a2, c2, hq, rfl, rfl, HQ, HQL, HO, HBr⟩ := hrel
  by_cases hlt : q < n
  ·have hlt' : (q : Int) < (n : Int) := by omega
   obtain ⟨x, hx⟩ : ∃ x, m.l[q]? = some x := ⟨_, List.getElem?_eq_getElem (by have := uh HN; omega)⟩
   have hxm := List.mem_of_getElem? hx
   obtain ⟨b, off, rfl, hbl, hc⟩ := (uh HL wr (uh HBr)).2 (fun e => by rw [e] at hx; simp at hx)
   have g0 := hc q x hx 0 _ rfl
   have g1 := hc q x hx 1 _ rfl
   have g2 := hc q x hx 2 _ rfl
   have g3 := hc q x hx 3 _ rfl
   have g4 := hc q x hx 4 _ rfl
   have g5 := hc q x hx 5 _ rfl
   rw [Nat.add_zero] at g0
   obtain ⟨Y, hY⟩ : ∃ Y, Y = wr.heap.size := ⟨_, rfl⟩
   obtain ⟨W5, h5⟩ : ∃ W5, W5 = wr.alloc (.cells #[.string (str x.c), .int .i64 x.id, .int .i64 x.m.k, .string (str x.m.i), .string (str x.m.n), .string (str x.m.t)] 28) := ⟨_, rfl⟩
   have b5 : Below wr.heap.size wr W5 := by rw [h5]; exact bA _
   have r5 : W5.heap[Y]? = some (.cells #[.string (str x.c), .int .i64 x.id, .int .i64 x.m.k, .string (str x.m.i), .string (str x.m.n), .string (str x.m.t)] 28 (0, 0)) := by rw [h5, hY]; exact heap_alloc_new _ _
   have HB5 : Hid (Below W.heap.size W W5) := (uh HBr).trans (b5.mono (uh HBr).size)
   have HO5 : Hid (OwnT W5 W.heap.size a2 c2 L) := owns_same (uh HO) (fun k hk => b5.block k (owns_lt (uh HO) k hk).2)
   have HR5 := hide r5
   obtain ⟨e0, e1, e2, e3, e4, e5⟩ := cells6 r5
   have p0 := (cells7 (uh HX W5 (uh HB5))).1
   have HTK : Hid (∀ t, elT m.k x = t → L ++ [t] = (m.l.take (q + 1)).map (elT m.k)) := fun t ht => by
    rw [List.take_add_one, hx, List.map_append, ← uh HQ, ← ht]
    rfl
   have hm9 := (may_all (uh HB)).2.1 x hxm
   have hz9 := lz_of ((uh HI).2.2.2.2.2 x hxm) hm9
   obtain ⟨m1, m2, m3, m4⟩ := may_len hm9
   have HDI : Hid (∀ u, Calls Tryz.prog 38 #[.int .i64 x.id] u fun e w' => e = .returned (.string (str (Lib.itoa x.id))) ∧ Hid (Below u.heap.size u w')) := fun u => rd13 x.id u hz9.1
   have HMT : Hid (∀ u, Calls Tryz.prog 39 #[.agg #[.int .i64 x.m.k, .string (str x.m.i), .string (str x.m.n), .string (str x.m.t)]] u fun e w' => e = .returned (.string (str (mtT x.m))) ∧ Hid (Below u.heap.size u w')) := fun u => rmut_any x.m.k x.m.i x.m.n x.m.t u hz9.2.1 (by omega) (by omega) (by omega)
   have LDI : Hid ((Lib.itoa x.id).length ≤ 1000000) := by show _ ≤ _; have := Lib.itoa_length_le x.id hz9.1.1 hz9.1.2; omega
   have LMT : Hid ((mtT x.m).length ≤ 1000000) := mtT_len hz9 hm9
   obtain ⟨R, hR⟩ : ∃ R, R = nuT x := ⟨_, rfl⟩
   have HTX := hide (uh HTK R (by unfold elT; rw [if_pos (uh HK), hR]))
   unfold nuT at hR
   generalize Lib.itoa x.id = DI at HDI LDI hR
   generalize mtT x.m = MT at HMT LMT hR
   obtain ⟨A1, hA1, LA1, kA1⟩ : ∃ A, A = [123, 34, 105, 100, 34, 58] ++ DI ∧ Hid (A.length ≤ 2000000) ∧ ∀ w, (Op.stringOp .add (⟨#[123, 34, 105, 100, 34, 58]⟩ : ByteArray) (str DI)).run Tryz.prog w = .ok (.string (str A)) w := add_stp [123, 34, 105, 100, 34, 58] DI 1000000 2000000 (by show _ ≤ _; decide) LDI (by decide) (by decide)
   obtain ⟨A2, hA2, LA2, kA2⟩ : ∃ A, A = A1 ++ [44, 34, 109, 34, 58] ∧ Hid (A.length ≤ 3000000) ∧ ∀ w, (Op.stringOp .add (str A1) (⟨#[44, 34, 109, 34, 58]⟩ : ByteArray)).run Tryz.prog w = .ok (.string (str A)) w := add_stp A1 [44, 34, 109, 34, 58] 2000000 3000000 LA1 (by show _ ≤ _; decide) (by decide) (by decide)
   obtain ⟨A3, hA3, LA3, kA3⟩ : ∃ A, A = A2 ++ MT ∧ Hid (A.length ≤ 4000000) ∧ ∀ w, (Op.stringOp .add (str A2) (str MT)).run Tryz.prog w = .ok (.string (str A)) w := add_stp A2 MT 3000000 4000000 LA2 LMT (by decide) (by decide)
   obtain ⟨A4, hA4, LA4, kA4⟩ : ∃ A, A = A3 ++ [125] ∧ Hid (A.length ≤ 5000000) ∧ ∀ w, (Op.stringOp .add (str A3) (⟨#[125]⟩ : ByteArray)).run Tryz.prog w = .ok (.string (str A)) w := add_stp A3 [125] 4000000 5000000 LA3 (by show _ ≤ _; decide) (by decide) (by decide)
   have HR : Hid (R = A4) := by show _ = _; rw [hR, hA4, hA3, hA2, hA1]
   rw [uh HR] at HTX
   have q1 : (m.k == 1) = true := by rw [beq_iff_eq]; exact uh HK
   have HS0 : Hid (∀ u, Below W5.heap.size W5 u → (u.cell? ⟨Y, 1, none⟩ = some (.int .i64 x.id) ∧ u.cell? ⟨Y, 2, none⟩ = some (.int .i64 x.m.k) ∧ u.cell? ⟨Y, 3, none⟩ = some (.string (str x.m.i)) ∧ u.cell? ⟨Y, 4, none⟩ = some (.string (str x.m.n)) ∧ u.cell? ⟨Y, 5, none⟩ = some (.string (str x.m.t)))) := fun u hb => by
    have r_Y := (hb.block Y (aI (uh HR5)).1).trans (uh HR5)
    exact ⟨cR6 r_Y, cR6 r_Y, cR6 r_Y, cR6 r_Y, cR6 r_Y⟩
   have HYN : Hid (blk a2 ≠ some Y) := fun e => by have h := (owns_lt (uh HO) Y e).2; omega
   have hLn : L.length ≤ 1000000 := by have := uh HQL; omega
   clear hR hA1 LA1 hA2 LA2 hA3 LA3 hA4 LA4 HR hx hxm hc hbl b5 r5 HTK hm9 hz9 HO HQ m1 m2 m3 m4 LDI LMT
   go_upto_region 7 with fail
   rw [← h5, ← hY]
   clear h5 hY g0 g1 g2 g3 g4 g5 e0 e1 e2 e3 e4 e5
   go_upto_region 8 with fail
   clear p0
   obtain ⟨D, hD⟩ : ∃ D, D = W5.drew := ⟨_, rfl⟩
   have HBD : Hid (Below W5.heap.size W5 D) := by show Below _ _ _; rw [hD]; exact Below.drew (Below.refl _ _)
   refine wp_region_held_drew (S := fun w' => w'.cell? ⟨Y, 1, none⟩ = some (.int .i64 x.id) ∧ w'.cell? ⟨Y, 2, none⟩ = some (.int .i64 x.m.k) ∧ w'.cell? ⟨Y, 3, none⟩ = some (.string (str x.m.i)) ∧ w'.cell? ⟨Y, 4, none⟩ = some (.string (str x.m.n)) ∧ w'.cell? ⟨Y, 5, none⟩ = some (.string (str x.m.t))) (by kernel_rfl) (by rw [← hD]; exact uh HS0 D (uh HBD)) (fun hHeld => ?_)
   rw [← hD] at hHeld ⊢
   clear hD
   refine wpAnyH_take (i := 0) (oi := ?_) (v := ?_) ?_ (by kernel_rfl) ?_ ?_ ?_ ?_ hHeld ?_
   rotate_left 2
   ·(simp only [xq1, xq3]) <;> with_reducible rfl
   ·kernel_rfl
   ·kernel_rfl
   ·exact fun _ _ _ h => h
   ·exact Or.inl ⟨by rfl, by (intro w hSw; (try dsimp only at hSw); obtain ⟨b1, b2, b3, b4, b5⟩ := hSw; go_simp <;> with_reducible rfl)⟩
   simp only [Act.put, xq4, xq5, xq6]
   refine wpAnyH_take (i := 1) (oi := ?_) (v := ?_) ?_ (by kernel_rfl) ?_ ?_ ?_ ?_ hHeld ?_
   rotate_left 2
   ·(simp only [xq1, xq2, xq3]) <;> with_reducible rfl
   ·kernel_rfl
   ·kernel_rfl
   ·exact fun _ _ _ h => h
   ·exact Or.inl ⟨by rfl, by (intro w hSw; (try dsimp only at hSw); obtain ⟨b1, b2, b3, b4, b5⟩ := hSw; go_simp <;> with_reducible rfl)⟩
   simp only [Act.put, xq4, xq5, xq6]
   refine wpAnyH_take (i := 2) (oi := ?_) (v := ?_) ?_ (by kernel_rfl) ?_ ?_ ?_ ?_ hHeld ?_
   rotate_left 2
   ·(simp only [xq1, xq2, xq3]) <;> with_reducible rfl
   ·kernel_rfl
   ·kernel_rfl
   ·exact fun _ _ _ h => h
   ·exact Or.inl ⟨by rfl, by (intro w hSw; (try dsimp only at hSw); obtain ⟨b1, b2, b3, b4, b5⟩ := hSw; go_simp <;> with_reducible rfl)⟩
   simp only [Act.put, xq4, xq5, xq6]
   refine wpAnyH_take (i := 6) (oi := ?_) (v := ?_) ?_ (by kernel_rfl) ?_ ?_ ?_ ?_ hHeld ?_
   rotate_left 2
   ·(simp only [xq1, xq2, xq3]) <;> with_reducible rfl
   ·kernel_rfl
   ·kernel_rfl
   ·exact fun _ _ _ h => h
   ·exact Or.inl ⟨by rfl, by (intro w hSw; (try dsimp only at hSw); obtain ⟨b1, b2, b3, b4, b5⟩ := hSw; go_simp <;> with_reducible rfl)⟩
   simp only [Act.put, xq4, xq5, xq6]
   refine wpAnyH_take (i := 7) (oi := ?_) (v := ?_) ?_ (by kernel_rfl) ?_ ?_ ?_ ?_ hHeld ?_
   rotate_left 2
   ·(simp only [xq1, xq2, xq3]) <;> with_reducible rfl
   ·kernel_rfl
   ·kernel_rfl
   ·exact fun _ _ _ h => h
   ·exact Or.inl ⟨by rfl, by (intro w hSw; (try dsimp only at hSw); obtain ⟨b1, b2, b3, b4, b5⟩ := hSw; go_simp <;> with_reducible rfl)⟩
   simp only [Act.put, xq4, xq5, xq6]
   refine wpAnyH_ready (rs := [3]) (by kernel_rfl) (by simp) ?rdc3
   refine AllReadyH.cons (o := ?oc3) ?hc3 (fun K hK => ?bc3) AllReadyH.nil
   case hc3 => (simp only [xq1, xq2, xq3]) <;> with_reducible rfl
   case bc3 =>
    go_simp
    refine (uh HDI D).mono ?_
    rintro e v1 ⟨rfl, h1⟩
    have B1 : Hid (Below W5.heap.size W5 v1) := (uh HBD).trans ((uh h1).mono (uh HBD).size)
    clear h1
    refine hK.out _ _ (uh HS0 v1 (uh B1)) (fun hHeld => ?_)
    clear hK K
    try simp only [Act.put, xq4, xq5, xq6]
    refine wpAnyH_take (i := 4) (oi := ?_) (v := ?_) ?_ (by kernel_rfl) ?_ ?_ ?_ ?_ hHeld ?_
    rotate_left 2
    ·(simp only [xq1, xq2, xq3]) <;> with_reducible rfl
    ·kernel_rfl
    ·kernel_rfl
    ·exact fun _ _ _ h => h
    ·exact Or.inl ⟨by rfl, by (intro w hSw; (try dsimp only at hSw); obtain ⟨b1, b2, b3, b4, b5⟩ := hSw; go_simp <;> with_reducible rfl)⟩
    simp only [Act.put, xq4, xq5, xq6]
    refine wpAnyH_take (i := 5) (oi := ?_) (v := ?_) ?_ (by kernel_rfl) ?_ ?_ ?_ ?_ hHeld ?_
    rotate_left 2
    ·(simp only [xq1, xq2, xq3]) <;> with_reducible rfl
    ·kernel_rfl
    ·kernel_rfl
    ·exact fun _ _ _ h => h
    ·exact Or.inl ⟨by rfl, by (intro w hSw; (try dsimp only at hSw); obtain ⟨b1, b2, b3, b4, b5⟩ := hSw; go_simp <;> with_reducible rfl)⟩
    simp only [Act.put, xq4, xq5, xq6]
    refine wpAnyH_ready (rs := [8]) (by kernel_rfl) (by simp) ?rdc8
    refine AllReadyH.cons (o := ?oc8) ?hc8 (fun K hK => ?bc8) AllReadyH.nil
    case hc8 => (simp only [xq1, xq2, xq3]) <;> with_reducible rfl
    case bc8 =>
     go_simp
     refine (uh HMT v1).mono ?_
     rintro e v2 ⟨rfl, h2⟩
     have B2 : Hid (Below W5.heap.size W5 v2) := (uh B1).trans ((uh h2).mono (uh B1).size)
     clear h2
     refine hK.out _ _ (uh HS0 v2 (uh B2)) (fun hHeld => ?_)
     clear hK K
     try simp only [Act.put, xq4, xq5, xq6]
     refine wpAnyH_take (i := 9) (oi := ?_) (v := ?_) ?_ (by kernel_rfl) ?_ ?_ ?_ ?_ hHeld ?_
     rotate_left 2
     ·(simp only [xq1, xq2, xq3]) <;> with_reducible rfl
     ·kernel_rfl
     ·kernel_rfl
     ·exact fun _ _ _ h => h
     ·exact Or.inl ⟨by rfl, by (intro w hSw; (try dsimp only at hSw); obtain ⟨b1, b2, b3, b4, b5⟩ := hSw; go_simp <;> with_reducible rfl)⟩
     simp only [Act.put, xq4, xq5, xq6]
     refine wpAnyH_take (i := 10) (oi := ?_) (v := ?_) ?_ (by kernel_rfl) ?_ ?_ ?_ ?_ hHeld ?_
     rotate_left 2
     ·(simp only [xq1, xq2, xq3]) <;> with_reducible rfl
     ·kernel_rfl
     ·kernel_rfl
     ·exact fun _ _ _ h => h
     ·exact Or.inl ⟨by rfl, by (intro w hSw; (try dsimp only at hSw); obtain ⟨b1, b2, b3, b4, b5⟩ := hSw; go_simp <;> with_reducible rfl)⟩
     simp only [Act.put, xq4, xq5, xq6]
     refine wpAnyH_ready (rs := [11]) (by kernel_rfl) (by simp) ?rdc11
     refine AllReadyH.cons (o := ?oc11) ?hc11 (fun K hK => ?bc11) AllReadyH.nil
     case hc11 => (simp only [xq1, xq2, xq3]) <;> with_reducible rfl
     case bc11 =>
      obtain ⟨Z8, hZ8⟩ : ∃ Z8, Z8 = v2.heap.size := ⟨_, rfl⟩
      obtain ⟨u8, hu8⟩ : ∃ u8, u8 = v2.alloc (.cells #[.string (str A4)] 9) := ⟨_, rfl⟩
      have B8 : Hid (Below W5.heap.size W5 u8) := by show Below _ _ _; rw [hu8]; exact (uh B2).trans ((bA _).mono (uh B2).size)
      have HR8 : Hid (u8.heap[Z8]? = some (.cells #[.string (str A4)] 9 (0, 0))) := by show _ = _; rw [hu8, hZ8]; exact heap_alloc_new _ _
      have HO8 : Hid (OwnT u8 W.heap.size a2 c2 L) := owns_same (uh HO5) (fun k hk => (uh B8).block k (owns_lt (uh HO5) k hk).2)
      have HB8 : Hid (Below W.heap.size W u8) := (uh HB5).trans ((uh B8).mono (uh HB5).size)
      go_simp
      rw [← hu8, ← hZ8]
      clear hu8 hZ8
      refine hK.out _ _ (uh HS0 u8 (uh B8)) (fun hHeld => ?_)
      clear hK K
      try simp only [Act.put, xq4, xq5, xq6]
      refine wpAnyH_ready (rs := [12]) (by kernel_rfl) (by simp) ?rdz
      refine AllReadyH.cons (o := ?oz12) ?hz12 (fun K hK => ?bz12) AllReadyH.nil
      case hz12 => (simp only [xq1, xq2, xq3]) <;> with_reducible rfl
      case bz12 =>
       refine stp_appT u8 rfl (.tmp 22) (.tmp 33) rfl W.heap.size a2 c2 L q (uh HQL) rfl (uh HO8) Z8 _ A4 rfl (uh HR8) hLn (uh HB8).size ?_
       intro G cap w2 HO9 HG HAT HGL
       have HB9 : Hid (Below W.heap.size W w2) := below_grown (uh HB8) (uh HG) (Nat.le_refl _) (fun k hk => (owns_lt (uh HO8) k hk).1)
       have HB9' : Hid (∀ k, k < u8.heap.size → blk a2 ≠ some k → w2.heap[k]? = u8.heap[k]?) := fun k hk hne => (uh HG).block k hk (fun e => hne e.symm)
       have s9 : w2.cell? ⟨Y, 1, none⟩ = some (.int .i64 x.id) ∧ w2.cell? ⟨Y, 2, none⟩ = some (.int .i64 x.m.k) ∧ w2.cell? ⟨Y, 3, none⟩ = some (.string (str x.m.i)) ∧ w2.cell? ⟨Y, 4, none⟩ = some (.string (str x.m.n)) ∧ w2.cell? ⟨Y, 5, none⟩ = some (.string (str x.m.t)) := by
        have hne : blk a2 ≠ some Y := uh HYN
        have r_Y := ((uh HB9') Y (Nat.lt_of_lt_of_le (aI (uh HR5)).1 (uh B8).size) hne).trans (((uh B8).block Y (aI (uh HR5)).1).trans (uh HR5))
        exact ⟨cR6 r_Y, cR6 r_Y, cR6 r_Y, cR6 r_Y, cR6 r_Y⟩
       refine hK.out _ _ s9 (fun hHeld => ?_)
       clear hK K s9
       try simp only [Act.put, xq4, xq5, xq6]
       refine wpAnyH_take (i := 13) (oi := ?_) (v := ?_) ?_ (by kernel_rfl) ?_ ?_ ?_ ?_ hHeld ?_
       rotate_left 2
       ·(simp only [xq1, xq2, xq3]) <;> with_reducible rfl
       ·kernel_rfl
       ·kernel_rfl
       ·exact fun _ _ _ h => h
       ·exact Or.inl ⟨by rfl, by (intro w hSw; (try dsimp only at hSw); obtain ⟨b1, b2, b3, b4, b5⟩ := hSw; go_simp <;> with_reducible rfl)⟩
       simp only [Act.put, xq4, xq5, xq6]
       refine wpAnyH_done (by kernel_rfl) ?_ _
       try dsimp only
       clear HO5 HB5 HO8 HB8 HR8 HG HAT HGL HB9'
       go_wp2_with fail
       go_round
       case rel => exact ⟨q + 1, L ++ [A4], _, _, by omega, rfl, by go_num, HTX, by show _ = _; have := uh HQL; simp; omega, HO9, HB9⟩
       case measure => simp [intOf]; omega
  ·have hlt' : ¬ (q : Int) < (n : Int) := by omega
   obtain rfl : n = q := by omega
   have HLL : Hid (L = m.l.map (elT m.k)) := by
    have e := uh HQ
    rw [List.take_of_length_le (by have := uh HN; omega)] at e
    exact e
   obtain ⟨p0, p1, p2, p3, p4, p5, p6⟩ := cells7 (uh HX wr (uh HBr))
   have HXr := hide (uh HX wr (uh HBr))
   have HJN : Hid (∀ u, Below wr.heap.size wr u → Calls Tryz.prog 43 #[.slice a2 n c2] u fun e w' => e = .returned (.string (str (joF true L))) ∧ Hid (Below u.heap.size u w')) := fun u hu => by
    have ho : OwnT u W.heap.size a2 c2 L := owns_same (uh HO) (fun k hk => hu.block k (owns_lt (uh HO) k hk).2)
    exact rjoin_any (fun k => blk a2 = some k) a2 n c2 L u (ho.nsf fun k hk => hk) (fun k hk => (owns_lt ho k hk).2) (uh HQL) (by omega) (by rw [uh HLL]; exact jl_len (uh HI) (uh HB))
   have HBf : Hid (Below w.heap.size w wr) := (uh HBW).trans ((uh HBr).mono (uh HBW).size)
   clear HQ HQL HO HX HL HXL
   have HK1 := HK
   have s1 : (m.k == 1) = true := by rw [beq_iff_eq]; exact uh HK
   have hw := wr_k1 (uh HI) (uh HB) (uh HK1)
   rw [← uh HM] at hw
   have HQC : Hid (∀ u, Calls Tryz.prog 37 #[.string (str m.c)] u fun e w' => e = .returned (.string (str (quo m.c))) ∧ Hid (Below u.heap.size u w')) := fun u => rq13 m.c u (by have := (may_all (uh HB)).2.2; omega)
   have LQC : Hid ((quo m.c).length ≤ 1000000) := by show _ ≤ _; have := q6_le m.c; have := (may_all (uh HB)).2.2; omega
   have LJL : Hid ((joF true L).length ≤ 1000000) := by show _ ≤ _; rw [uh HLL]; exact jl_len (uh HI) (uh HB)
   rw [← uh HLL] at hw
   generalize quo m.c = QC at HQC LQC hw
   generalize joF true L = JL at HJN LJL hw
   obtain ⟨A1, hA1, LA1, kA1⟩ : ∃ A, A = [123, 34, 99, 108, 105, 101, 110, 116, 34, 58] ++ QC ∧ Hid (A.length ≤ 2000000) ∧ ∀ w, (Op.stringOp .add (⟨#[123, 34, 99, 108, 105, 101, 110, 116, 34, 58]⟩ : ByteArray) (str QC)).run Tryz.prog w = .ok (.string (str A)) w := add_stp [123, 34, 99, 108, 105, 101, 110, 116, 34, 58] QC 1000000 2000000 (by show _ ≤ _; decide) LQC (by decide) (by decide)
   obtain ⟨A2, hA2, LA2, kA2⟩ : ∃ A, A = A1 ++ [44, 34, 108, 105, 115, 116, 34, 58, 91] ∧ Hid (A.length ≤ 3000000) ∧ ∀ w, (Op.stringOp .add (str A1) (⟨#[44, 34, 108, 105, 115, 116, 34, 58, 91]⟩ : ByteArray)).run Tryz.prog w = .ok (.string (str A)) w := add_stp A1 [44, 34, 108, 105, 115, 116, 34, 58, 91] 2000000 3000000 LA1 (by show _ ≤ _; decide) (by decide) (by decide)
   obtain ⟨A3, hA3, LA3, kA3⟩ : ∃ A, A = A2 ++ JL ∧ Hid (A.length ≤ 4000000) ∧ ∀ w, (Op.stringOp .add (str A2) (str JL)).run Tryz.prog w = .ok (.string (str A)) w := add_stp A2 JL 3000000 4000000 LA2 LJL (by decide) (by decide)
   obtain ⟨A4, hA4, LA4, kA4⟩ : ∃ A, A = A3 ++ [93, 44, 34, 116, 121, 112, 101, 34, 58, 34, 112, 117, 115, 104, 34, 125] ∧ Hid (A.length ≤ 5000000) ∧ ∀ w, (Op.stringOp .add (str A3) (⟨#[93, 44, 34, 116, 121, 112, 101, 34, 58, 34, 112, 117, 115, 104, 34, 125]⟩ : ByteArray)).run Tryz.prog w = .ok (.string (str A)) w := add_stp A3 [93, 44, 34, 116, 121, 112, 101, 34, 58, 34, 112, 117, 115, 104, 34, 125] 4000000 5000000 LA3 (by show _ ≤ _; decide) (by decide) (by decide)
   have HR : Hid (M = (A4, 0)) := by show _ = _; rw [hw, hA4, hA3, hA2, hA1]
   clear hw hA1 LA1 hA2 LA2 hA3 LA3 hA4 LA4 HLL HM HI
   go_wp2_with fail
   refine (uh HQC wr).mono ?_
   rintro e v1 ⟨rfl, h1⟩
   have HC1 : Hid (Below wr.heap.size wr v1) := h1
   clear h1 p0 p1 p2 p3 p4 p5 p6
   go_wp2_with fail
   refine (uh HJN v1 (uh HC1)).mono ?_
   rintro e v2 ⟨rfl, h2⟩
   have HC2 : Hid (Below wr.heap.size wr v2) := (uh HC1).trans ((uh h2).mono (uh HC1).size)
   clear h2
   go_wp2_with fail
   go_ret2
   exact ⟨by rw [uh HR]; try rfl, (uh HBf).trans ((uh HC2).mono (uh HBf).size)⟩
end Go.Proofs.YtmpjeahibfdehaaGreatDoor
end
section
set_option linter.unusedVariables false
set_option maxRecDepth 1000000
namespace Go.Proofs.YtmpjeahibfdehaaGreatDoor
open Go.RowKit

set_option maxHeartbeats 32000000 in
theorem rwr2 (m : Mg) (a : Option Addr) (n c : Nat) (w : World) (hl : LRow w a n m.l) (hn9 : n ≤ 1000000) (hc : m.c.length ≤ 9223372036854775807) (hx : ∀ x ∈ m.l, LgL x) (hi : MiZ m) (hk : ¬ m.k = 1) :
  Calls Tryz.prog 22 #[mgV m a n c] w fun e w' => e = .returned (.tuple #[.string (str (wrM m).1), .int .i64 (((wrM m).2 : Nat) : Int)]) ∧ Hid (Below w.heap.size w w') := by
 obtain ⟨X, hX⟩ : ∃ X, X = w.heap.size := ⟨_, rfl⟩
 obtain ⟨W, hW⟩ : ∃ W, W = w.alloc (.cells #[.int .i64 m.k, .string (str m.c), .int .i64 m.fr, .int .i64 m.co, .int .i64 m.la, .int .i64 m.top, .slice a n c] 24) := ⟨_, rfl⟩
 have bW : Below w.heap.size w W := by rw [hW]; exact bA _
 have rX : W.heap[X]? = some (.cells #[.int .i64 m.k, .string (str m.c), .int .i64 m.fr, .int .i64 m.co, .int .i64 m.la, .int .i64 m.top, .slice a n c] 24 (0, 0)) := by rw [hW, hX]; exact heap_alloc_new _ _
 have HBW := hide bW
 have HX : Hid (∀ u, Below W.heap.size W u → u.heap[X]? = some (.cells #[.int .i64 m.k, .string (str m.c), .int .i64 m.fr, .int .i64 m.co, .int .i64 m.la, .int .i64 m.top, .slice a n c] 24 (0, 0))) := fun u hb => (hb.block X (aI rX).1).trans rX
 have HL : Hid (∀ u, Below W.heap.size W u → LRow u a n m.l) := fun u hb => (hl.below bW).below hb
 have HCK := hide (rcheck13 m a n c W (hl.below bW) hn9 hc hx hi)
 have HN : Hid (n = m.l.length) := hl.1
 unfold mgV at HCK ⊢
 obtain ⟨M, hM⟩ : ∃ M, M = wrM m := ⟨_, rfl⟩
 rw [← hM]
 obtain ⟨E, hE⟩ : ∃ E : Int, E = if mayBeM m = true then 0 else 130 := ⟨_, rfl⟩
 rw [← hE] at HCK
 obtain ⟨p0, p1, p2, p3, p4, p5, p6⟩ := cells7 rX
 have HK := hide hk
 have HI := hide hi
 have HXL := hide hx
 have HM := hide hM
 have HE := hide hE
 clear hl hc hx hi hk bW rX hM hE
 go_enter Tryz.func22, Tryz.ntmps22
 go_upto_region 1 with fail
 rw [← hW, ← hX]
 clear hW hX
 go_wp2_with fail
 refine (uh HCK).mono ?_
 rintro e u1 ⟨rfl, h1⟩
 have HB1 : Hid (Below W.heap.size W u1) := h1
 clear HCK h1
 cases hb : mayBeM m with
 | false =>
  obtain rfl : E = 130 := by rw [uh HE, hb]; rfl
  have HF : Hid (M = ([], 130)) := by show _ = _; rw [uh HM]; unfold wrM; rw [hb]; rfl
  clear HE HM HX HL HXL hb
  go_wp2_with fail
  go_ret2
  exact ⟨by rw [uh HF]; try rfl, (uh HBW).trans ((uh HB1).mono (uh HBW).size)⟩
 | true =>
 obtain rfl : E = 0 := by rw [uh HE, hb]; rfl
 have HB := hide hb
 clear HE hb
 clear p0 p1 p2 p3 p4 p5 p6
 obtain ⟨p0, p1, p2, p3, p4, p5, p6⟩ := cells7 (uh HX u1 (uh HB1))
 have n8 : n ≤ 8 := by have := (may_all (uh HB)).1; have := uh HN; omega
 have HO0 : Hid (OwnT u1 W.heap.size none 0 []) := ⟨rfl, .inl ⟨rfl, rfl⟩⟩
 go_wp2_with fail
 clear p0 p1 p2 p3 p4 p5 p6
 go_loopw [4, 15] (fun vo v wr => ∃ (q : Nat) (L : List (List UInt8)) (a2 : Option Addr) (c2 : Nat), q ≤ n ∧ vo = .slice a2 q c2 ∧ v = .int .i64 (q : Int) ∧ Hid (L = (m.l.take q).map (elT m.k)) ∧ Hid (q = L.length) ∧ Hid (OwnT wr W.heap.size a2 c2 L) ∧ Hid (Below W.heap.size W wr)) (fun _ v _ => n - (intOf v).toNat)
 case atStart => exact ⟨0, [], none, 0, Nat.zero_le _, rfl, rfl, by show _ = _; simp, rfl, HO0, HB1⟩
 case round =>
  clear HO0 HB1
  obtain ⟨q, L, a2, c2, hq, rfl, rfl, HQ, HQL, HO, HBr⟩ := hrel
  by_cases hlt : q < n
  ·have hlt' : (q : Int) < (n : Int) := by omega
   obtain ⟨x, hx⟩ : ∃ x, m.l[q]? = some x := ⟨_, List.getElem?_eq_getElem (by have := uh HN; omega)⟩
   have hxm := List.mem_of_getElem? hx
   obtain ⟨b, off, rfl, hbl, hc⟩ := (uh HL wr (uh HBr)).2 (fun e => by rw [e] at hx; simp at hx)
   have g0 := hc q x hx 0 _ rfl
   have g1 := hc q x hx 1 _ rfl
   have g2 := hc q x hx 2 _ rfl
   have g3 := hc q x hx 3 _ rfl
   have g4 := hc q x hx 4 _ rfl
   have g5 := hc q x hx 5 _ rfl
   rw [Nat.add_zero] at g0
   obtain ⟨Y, hY⟩ : ∃ Y, Y = wr.heap.size := ⟨_, rfl⟩
   obtain ⟨W5, h5⟩ : ∃ W5, W5 = wr.alloc (.cells #[.string (str x.c), .int .i64 x.id, .int .i64 x.m.k, .string (str x.m.i), .string (str x.m.n), .string (str x.m.t)] 28) := ⟨_, rfl⟩
   have b5 : Below wr.heap.size wr W5 := by rw [h5]; exact bA _
   have r5 : W5.heap[Y]? = some (.cells #[.string (str x.c), .int .i64 x.id, .int .i64 x.m.k, .string (str x.m.i), .string (str x.m.n), .string (str x.m.t)] 28 (0, 0)) := by rw [h5, hY]; exact heap_alloc_new _ _
   have HB5 : Hid (Below W.heap.size W W5) := (uh HBr).trans (b5.mono (uh HBr).size)
   have HO5 : Hid (OwnT W5 W.heap.size a2 c2 L) := owns_same (uh HO) (fun k hk => b5.block k (owns_lt (uh HO) k hk).2)
   have HR5 := hide r5
   obtain ⟨e0, e1, e2, e3, e4, e5⟩ := cells6 r5
   have p0 := (cells7 (uh HX W5 (uh HB5))).1
   have HTK : Hid (∀ t, elT m.k x = t → L ++ [t] = (m.l.take (q + 1)).map (elT m.k)) := fun t ht => by
    rw [List.take_add_one, hx, List.map_append, ← uh HQ, ← ht]
    rfl
   have hm9 := (may_all (uh HB)).2.1 x hxm
   have hz9 := lz_of ((uh HI).2.2.2.2.2 x hxm) hm9
   obtain rfl : q = L.length := uh HQL
   have HPT : Hid (∀ u, Calls Tryz.prog 19 #[lgV x] u fun e w' => e = .returned (.tuple #[.string (str (lgT x)), .int .i64 0]) ∧ Hid (Below u.heap.size u w')) := fun u => by
    have h := rput_any x u ((uh HI).2.2.2.2.2 x hxm) (uh HXL x hxm)
    unfold ptT at h
    rw [hm9, if_pos rfl] at h
    exact h
   unfold lgV at HPT
   have HTX := hide (uh HTK (lgT x) (by unfold elT; rw [if_neg (uh HK)]))
   generalize lgT x = t at HPT HTX
   have q1 : (m.k == 1) = false := by rw [beq_eq_false_iff_ne]; exact uh HK
   clear hx hxm hc hbl b5 r5 HTK hm9 hz9 HO HQ HQL
   go_upto_region 7 with fail
   rw [← h5, ← hY]
   clear h5 hY g0 g1 g2 g3 g4 g5
   go_wp2_with fail
   refine (uh HPT W5).mono ?_
   rintro e u6 ⟨rfl, h6⟩
   obtain ⟨Z8, hZ8⟩ : ∃ Z8, Z8 = u6.heap.size := ⟨_, rfl⟩
   obtain ⟨W8, hW8⟩ : ∃ W8, W8 = u6.alloc (.cells #[.string (str t)] 9) := ⟨_, rfl⟩
   have b8 : Below u6.heap.size u6 W8 := by rw [hW8]; exact bA _
   have b58 : Below W5.heap.size W5 W8 := (uh h6).trans (b8.mono (uh h6).size)
   have HR8 : Hid (W8.heap[Z8]? = some (.cells #[.string (str t)] 9 (0, 0))) := by show _ = _; rw [hW8, hZ8]; exact heap_alloc_new _ _
   have HO8 : Hid (OwnT W8 W.heap.size a2 c2 L) := owns_same (uh HO5) (fun k hk => b58.block k (owns_lt (uh HO5) k hk).2)
   have HB8 : Hid (Below W.heap.size W W8) := (uh HB5).trans (b58.mono (uh HB5).size)
   have hLn : L.length ≤ 1000000 := by omega
   clear HPT h6 b8 b58 e0 e1 e2 e3 e4 e5 HO5 HB5 HR5 p0
   go_wp2_with (at_builtin; rw [← hW8, ← hZ8]; clear hW8 hZ8; refine wp_appT W8 rfl _ _ rfl W.heap.size a2 c2 L rfl (uh HO8) Z8 _ t rfl (uh HR8) hLn (uh HB8).size ?_)
   intro gn cpn w9 HO9 HG9 HAT9 HGL9
   have HO9' : Hid (OwnT w9 W.heap.size (some ⟨gn, 0, none⟩) cpn (L ++ [t])) := by
    show w9.ownsRow _ _ _ _ _ _
    rw [show nsv (L ++ [t]) = nsv L ++ [.string (str t)] by simp [nsv], List.length_append]
    exact uh HO9
   have HB9 : Hid (Below W.heap.size W w9) := below_grown (uh HB8) (uh HG9) (Nat.le_refl _) (fun k hk => (owns_lt (uh HO8) k hk).1)
   clear HO9 HG9 HAT9 HGL9 HO8 HB8 HR8
   go_wp2_with fail
   go_round
   case rel => exact ⟨L.length + 1, L ++ [t], _, _, by omega, rfl, by go_num, HTX, by show _ = _; simp, HO9', HB9⟩
   case measure => simp [intOf]; omega
  ·have hlt' : ¬ (q : Int) < (n : Int) := by omega
   obtain rfl : n = q := by omega
   have HLL : Hid (L = m.l.map (elT m.k)) := by
    have e := uh HQ
    rw [List.take_of_length_le (by have := uh HN; omega)] at e
    exact e
   obtain ⟨p0, p1, p2, p3, p4, p5, p6⟩ := cells7 (uh HX wr (uh HBr))
   have HXr := hide (uh HX wr (uh HBr))
   have HJN : Hid (∀ u, Below wr.heap.size wr u → Calls Tryz.prog 43 #[.slice a2 n c2] u fun e w' => e = .returned (.string (str (joF true L))) ∧ Hid (Below u.heap.size u w')) := fun u hu => by
    have ho : OwnT u W.heap.size a2 c2 L := owns_same (uh HO) (fun k hk => hu.block k (owns_lt (uh HO) k hk).2)
    exact rjoin_any (fun k => blk a2 = some k) a2 n c2 L u (ho.nsf fun k hk => hk) (fun k hk => (owns_lt ho k hk).2) (uh HQL) (by omega) (by rw [uh HLL]; exact jl_len (uh HI) (uh HB))
   have HBf : Hid (Below w.heap.size w wr) := (uh HBW).trans ((uh HBr).mono (uh HBW).size)
   clear HQ HQL HO HX HL HXL
   have hk1 : ¬ m.k = 1 := uh HK
   by_cases hk2 : m.k = 2
   ·have HK2 := hide hk2
    have s1 : (m.k == 1) = false := by rw [beq_eq_false_iff_ne]; omega
    have s2 : (m.k == 2) = true := by rw [beq_iff_eq]; exact hk2
    clear hk2 hk1
    have hw := wr_k2 (uh HI) (uh HB) (uh HK2)
    rw [← uh HM] at hw
    have HDL : Hid (∀ u, Calls Tryz.prog 38 #[.int .i64 m.la] u fun e w' => e = .returned (.string (str (Lib.itoa m.la))) ∧ Hid (Below u.heap.size u w')) := fun u => rd13 m.la u (uh HI).2.2.2.1
    have LDL : Hid ((Lib.itoa m.la).length ≤ 1000000) := by show _ ≤ _; have := Lib.itoa_length_le m.la (uh HI).2.2.2.1.1 (uh HI).2.2.2.1.2; omega
    have HDT : Hid (∀ u, Calls Tryz.prog 38 #[.int .i64 m.top] u fun e w' => e = .returned (.string (str (Lib.itoa m.top))) ∧ Hid (Below u.heap.size u w')) := fun u => rd13 m.top u (uh HI).2.2.2.2.1
    have LDT : Hid ((Lib.itoa m.top).length ≤ 1000000) := by show _ ≤ _; have := Lib.itoa_length_le m.top (uh HI).2.2.2.2.1.1 (uh HI).2.2.2.2.1.2; omega
    generalize Lib.itoa m.la = DL at HDL LDL hw
    generalize Lib.itoa m.top = DT at HDT LDT hw
    obtain ⟨A1, hA1, LA1, kA1⟩ : ∃ A, A = [123, 34, 108, 97, 115, 116, 34, 58] ++ DL ∧ Hid (A.length ≤ 2000000) ∧ ∀ w, (Op.stringOp .add (⟨#[123, 34, 108, 97, 115, 116, 34, 58]⟩ : ByteArray) (str DL)).run Tryz.prog w = .ok (.string (str A)) w := add_stp [123, 34, 108, 97, 115, 116, 34, 58] DL 1000000 2000000 (by show _ ≤ _; decide) LDL (by decide) (by decide)
    obtain ⟨A2, hA2, LA2, kA2⟩ : ∃ A, A = A1 ++ [44, 34, 116, 111, 112, 34, 58] ∧ Hid (A.length ≤ 3000000) ∧ ∀ w, (Op.stringOp .add (str A1) (⟨#[44, 34, 116, 111, 112, 34, 58]⟩ : ByteArray)).run Tryz.prog w = .ok (.string (str A)) w := add_stp A1 [44, 34, 116, 111, 112, 34, 58] 2000000 3000000 LA1 (by show _ ≤ _; decide) (by decide) (by decide)
    obtain ⟨A3, hA3, LA3, kA3⟩ : ∃ A, A = A2 ++ DT ∧ Hid (A.length ≤ 4000000) ∧ ∀ w, (Op.stringOp .add (str A2) (str DT)).run Tryz.prog w = .ok (.string (str A)) w := add_stp A2 DT 3000000 4000000 LA2 LDT (by decide) (by decide)
    obtain ⟨A4, hA4, LA4, kA4⟩ : ∃ A, A = A3 ++ [44, 34, 116, 121, 112, 101, 34, 58, 34, 112, 117, 115, 104, 101, 100, 34, 125] ∧ Hid (A.length ≤ 5000000) ∧ ∀ w, (Op.stringOp .add (str A3) (⟨#[44, 34, 116, 121, 112, 101, 34, 58, 34, 112, 117, 115, 104, 101, 100, 34, 125]⟩ : ByteArray)).run Tryz.prog w = .ok (.string (str A)) w := add_stp A3 [44, 34, 116, 121, 112, 101, 34, 58, 34, 112, 117, 115, 104, 101, 100, 34, 125] 4000000 5000000 LA3 (by show _ ≤ _; decide) (by decide) (by decide)
    have HR : Hid (M = (A4, 0)) := by show _ = _; rw [hw, hA4, hA3, hA2, hA1]
    clear hw hA1 LA1 hA2 LA2 hA3 LA3 hA4 LA4 HLL HM HI
    have HS0 : Hid (∀ u, Below wr.heap.size wr u → (u.cell? ⟨X, 4, none⟩ = some (.int .i64 m.la) ∧ u.cell? ⟨X, 5, none⟩ = some (.int .i64 m.top))) := fun u hb => by
     have r_X := (hb.block X (aI (uh HXr)).1).trans (uh HXr)
     exact ⟨(cR6 r_X), (cR6 r_X)⟩
    have HTR : Hid (∀ u u', Hid (Below wr.heap.size wr u) → Hid (Below u.heap.size u u') → Hid (Below wr.heap.size wr u')) := fun u u' h h1 => (uh h).trans ((uh h1).mono (uh h).size)
    have B0 : Hid (Below wr.heap.size wr wr.drew) := Below.drew (Below.refl _ _)
    have s0 := uh HS0 wr.drew (uh B0)
    have tok0 := True.intro
    go_upto_region 16 with fail
    go_region_held3 (fun w' => w'.cell? ⟨X, 4, none⟩ = some (.int .i64 m.la) ∧ w'.cell? ⟨X, 5, none⟩ = some (.int .i64 m.top)) (first | with_reducible exact s1 | with_reducible exact s0) ((first
     | (go_at_call 38; have tk := tok1; refine (uh HDT _).mono ?_; rintro e u1 ⟨rfl, h1⟩; have B1 := uh HTR _ _ ‹Hid (Below wr.heap.size wr _)› h1; have s1 := uh HS0 _ (uh B1); have tok2 := True.intro)
     | (go_at_call 38; have tk := tok0; refine (uh HDL _).mono ?_; rintro e u1 ⟨rfl, h1⟩; have B1 := uh HTR _ _ ‹Hid (Below wr.heap.size wr _)› h1; have s1 := uh HS0 _ (uh B1); have tok1 := True.intro)))
    go_wp2_with fail
    go_ret2
    exact ⟨by rw [uh HR]; try rfl, (uh HBf).trans ((uh B1).mono (uh HBf).size)⟩
   by_cases hk3 : m.k = 3
   ·have HK3 := hide hk3
    have s1 : (m.k == 1) = false := by rw [beq_eq_false_iff_ne]; omega
    have s2 : (m.k == 2) = false := by rw [beq_eq_false_iff_ne]; omega
    have s3 : (m.k == 3) = true := by rw [beq_iff_eq]; exact hk3
    clear hk3 hk2 hk1
    have hw := wr_k3 (uh HI) (uh HB) (uh HK3)
    rw [← uh HM] at hw
    have HQC : Hid (∀ u, Calls Tryz.prog 37 #[.string (str m.c)] u fun e w' => e = .returned (.string (str (quo m.c))) ∧ Hid (Below u.heap.size u w')) := fun u => rq13 m.c u (by have := (may_all (uh HB)).2.2; omega)
    have LQC : Hid ((quo m.c).length ≤ 1000000) := by show _ ≤ _; have := q6_le m.c; have := (may_all (uh HB)).2.2; omega
    have HDC : Hid (∀ u, Calls Tryz.prog 38 #[.int .i64 m.co] u fun e w' => e = .returned (.string (str (Lib.itoa m.co))) ∧ Hid (Below u.heap.size u w')) := fun u => rd13 m.co u (uh HI).2.2.1
    have LDC : Hid ((Lib.itoa m.co).length ≤ 1000000) := by show _ ≤ _; have := Lib.itoa_length_le m.co (uh HI).2.2.1.1 (uh HI).2.2.1.2; omega
    generalize quo m.c = QC at HQC LQC hw
    generalize Lib.itoa m.co = DC at HDC LDC hw
    obtain ⟨A1, hA1, LA1, kA1⟩ : ∃ A, A = [123, 34, 99, 108, 105, 101, 110, 116, 34, 58] ++ QC ∧ Hid (A.length ≤ 2000000) ∧ ∀ w, (Op.stringOp .add (⟨#[123, 34, 99, 108, 105, 101, 110, 116, 34, 58]⟩ : ByteArray) (str QC)).run Tryz.prog w = .ok (.string (str A)) w := add_stp [123, 34, 99, 108, 105, 101, 110, 116, 34, 58] QC 1000000 2000000 (by show _ ≤ _; decide) LQC (by decide) (by decide)
    obtain ⟨A2, hA2, LA2, kA2⟩ : ∃ A, A = A1 ++ [44, 34, 99, 111, 111, 107, 105, 101, 34, 58] ∧ Hid (A.length ≤ 3000000) ∧ ∀ w, (Op.stringOp .add (str A1) (⟨#[44, 34, 99, 111, 111, 107, 105, 101, 34, 58]⟩ : ByteArray)).run Tryz.prog w = .ok (.string (str A)) w := add_stp A1 [44, 34, 99, 111, 111, 107, 105, 101, 34, 58] 2000000 3000000 LA1 (by show _ ≤ _; decide) (by decide) (by decide)
    obtain ⟨A3, hA3, LA3, kA3⟩ : ∃ A, A = A2 ++ DC ∧ Hid (A.length ≤ 4000000) ∧ ∀ w, (Op.stringOp .add (str A2) (str DC)).run Tryz.prog w = .ok (.string (str A)) w := add_stp A2 DC 3000000 4000000 LA2 LDC (by decide) (by decide)
    obtain ⟨A4, hA4, LA4, kA4⟩ : ∃ A, A = A3 ++ [44, 34, 116, 121, 112, 101, 34, 58, 34, 112, 117, 108, 108, 34, 125] ∧ Hid (A.length ≤ 5000000) ∧ ∀ w, (Op.stringOp .add (str A3) (⟨#[44, 34, 116, 121, 112, 101, 34, 58, 34, 112, 117, 108, 108, 34, 125]⟩ : ByteArray)).run Tryz.prog w = .ok (.string (str A)) w := add_stp A3 [44, 34, 116, 121, 112, 101, 34, 58, 34, 112, 117, 108, 108, 34, 125] 4000000 5000000 LA3 (by show _ ≤ _; decide) (by decide) (by decide)
    have HR : Hid (M = (A4, 0)) := by show _ = _; rw [hw, hA4, hA3, hA2, hA1]
    clear hw hA1 LA1 hA2 LA2 hA3 LA3 hA4 LA4 HLL HM HI
    have HS0 : Hid (∀ u, Below wr.heap.size wr u → (u.cell? ⟨X, 1, none⟩ = some (.string (str m.c)) ∧ u.cell? ⟨X, 3, none⟩ = some (.int .i64 m.co))) := fun u hb => by
     have r_X := (hb.block X (aI (uh HXr)).1).trans (uh HXr)
     exact ⟨(cR6 r_X), (cR6 r_X)⟩
    have HTR : Hid (∀ u u', Hid (Below wr.heap.size wr u) → Hid (Below u.heap.size u u') → Hid (Below wr.heap.size wr u')) := fun u u' h h1 => (uh h).trans ((uh h1).mono (uh h).size)
    have B0 : Hid (Below wr.heap.size wr wr.drew) := Below.drew (Below.refl _ _)
    have s0 := uh HS0 wr.drew (uh B0)
    have tok0 := True.intro
    go_upto_region 18 with fail
    go_region_held3 (fun w' => w'.cell? ⟨X, 1, none⟩ = some (.string (str m.c)) ∧ w'.cell? ⟨X, 3, none⟩ = some (.int .i64 m.co)) (first | with_reducible exact s1 | with_reducible exact s0) ((first
     | (go_at_call 38; have tk := tok1; refine (uh HDC _).mono ?_; rintro e u1 ⟨rfl, h1⟩; have B1 := uh HTR _ _ ‹Hid (Below wr.heap.size wr _)› h1; have s1 := uh HS0 _ (uh B1); have tok2 := True.intro)
     | (go_at_call 37; have tk := tok0; refine (uh HQC _).mono ?_; rintro e u1 ⟨rfl, h1⟩; have B1 := uh HTR _ _ ‹Hid (Below wr.heap.size wr _)› h1; have s1 := uh HS0 _ (uh B1); have tok1 := True.intro)))
    go_wp2_with fail
    go_ret2
    exact ⟨by rw [uh HR]; try rfl, (uh HBf).trans ((uh B1).mono (uh HBf).size)⟩
   by_cases hk4 : m.k = 4
   ·have HK4 := hide hk4
    have s1 : (m.k == 1) = false := by rw [beq_eq_false_iff_ne]; omega
    have s2 : (m.k == 2) = false := by rw [beq_eq_false_iff_ne]; omega
    have s3 : (m.k == 3) = false := by rw [beq_eq_false_iff_ne]; omega
    have s4 : (m.k == 4) = true := by rw [beq_iff_eq]; exact hk4
    clear hk4 hk3 hk2 hk1
    have hw := wr_k4 (uh HI) (uh HB) (uh HK4)
    rw [← uh HM] at hw
    have HDC : Hid (∀ u, Calls Tryz.prog 38 #[.int .i64 m.co] u fun e w' => e = .returned (.string (str (Lib.itoa m.co))) ∧ Hid (Below u.heap.size u w')) := fun u => rd13 m.co u (uh HI).2.2.1
    have LDC : Hid ((Lib.itoa m.co).length ≤ 1000000) := by show _ ≤ _; have := Lib.itoa_length_le m.co (uh HI).2.2.1.1 (uh HI).2.2.1.2; omega
    have HDF : Hid (∀ u, Calls Tryz.prog 38 #[.int .i64 m.fr] u fun e w' => e = .returned (.string (str (Lib.itoa m.fr))) ∧ Hid (Below u.heap.size u w')) := fun u => rd13 m.fr u (uh HI).2.1
    have LDF : Hid ((Lib.itoa m.fr).length ≤ 1000000) := by show _ ≤ _; have := Lib.itoa_length_le m.fr (uh HI).2.1.1 (uh HI).2.1.2; omega
    have HDL : Hid (∀ u, Calls Tryz.prog 38 #[.int .i64 m.la] u fun e w' => e = .returned (.string (str (Lib.itoa m.la))) ∧ Hid (Below u.heap.size u w')) := fun u => rd13 m.la u (uh HI).2.2.2.1
    have LDL : Hid ((Lib.itoa m.la).length ≤ 1000000) := by show _ ≤ _; have := Lib.itoa_length_le m.la (uh HI).2.2.2.1.1 (uh HI).2.2.2.1.2; omega
    have LJL : Hid ((joF true L).length ≤ 1000000) := by show _ ≤ _; rw [uh HLL]; exact jl_len (uh HI) (uh HB)
    rw [← uh HLL] at hw
    have HDT : Hid (∀ u, Calls Tryz.prog 38 #[.int .i64 m.top] u fun e w' => e = .returned (.string (str (Lib.itoa m.top))) ∧ Hid (Below u.heap.size u w')) := fun u => rd13 m.top u (uh HI).2.2.2.2.1
    have LDT : Hid ((Lib.itoa m.top).length ≤ 1000000) := by show _ ≤ _; have := Lib.itoa_length_le m.top (uh HI).2.2.2.2.1.1 (uh HI).2.2.2.2.1.2; omega
    generalize Lib.itoa m.co = DC at HDC LDC hw
    generalize Lib.itoa m.fr = DF at HDF LDF hw
    generalize Lib.itoa m.la = DL at HDL LDL hw
    generalize joF true L = JL at HJN LJL hw
    generalize Lib.itoa m.top = DT at HDT LDT hw
    obtain ⟨A1, hA1, LA1, kA1⟩ : ∃ A, A = [123, 34, 99, 111, 111, 107, 105, 101, 34, 58] ++ DC ∧ Hid (A.length ≤ 2000000) ∧ ∀ w, (Op.stringOp .add (⟨#[123, 34, 99, 111, 111, 107, 105, 101, 34, 58]⟩ : ByteArray) (str DC)).run Tryz.prog w = .ok (.string (str A)) w := add_stp [123, 34, 99, 111, 111, 107, 105, 101, 34, 58] DC 1000000 2000000 (by show _ ≤ _; decide) LDC (by decide) (by decide)
    obtain ⟨A2, hA2, LA2, kA2⟩ : ∃ A, A = A1 ++ [44, 34, 102, 114, 111, 109, 34, 58] ∧ Hid (A.length ≤ 3000000) ∧ ∀ w, (Op.stringOp .add (str A1) (⟨#[44, 34, 102, 114, 111, 109, 34, 58]⟩ : ByteArray)).run Tryz.prog w = .ok (.string (str A)) w := add_stp A1 [44, 34, 102, 114, 111, 109, 34, 58] 2000000 3000000 LA1 (by show _ ≤ _; decide) (by decide) (by decide)
    obtain ⟨A3, hA3, LA3, kA3⟩ : ∃ A, A = A2 ++ DF ∧ Hid (A.length ≤ 4000000) ∧ ∀ w, (Op.stringOp .add (str A2) (str DF)).run Tryz.prog w = .ok (.string (str A)) w := add_stp A2 DF 3000000 4000000 LA2 LDF (by decide) (by decide)
    obtain ⟨A4, hA4, LA4, kA4⟩ : ∃ A, A = A3 ++ [44, 34, 108, 97, 115, 116, 34, 58] ∧ Hid (A.length ≤ 5000000) ∧ ∀ w, (Op.stringOp .add (str A3) (⟨#[44, 34, 108, 97, 115, 116, 34, 58]⟩ : ByteArray)).run Tryz.prog w = .ok (.string (str A)) w := add_stp A3 [44, 34, 108, 97, 115, 116, 34, 58] 4000000 5000000 LA3 (by show _ ≤ _; decide) (by decide) (by decide)
    obtain ⟨A5, hA5, LA5, kA5⟩ : ∃ A, A = A4 ++ DL ∧ Hid (A.length ≤ 6000000) ∧ ∀ w, (Op.stringOp .add (str A4) (str DL)).run Tryz.prog w = .ok (.string (str A)) w := add_stp A4 DL 5000000 6000000 LA4 LDL (by decide) (by decide)
    obtain ⟨A6, hA6, LA6, kA6⟩ : ∃ A, A = A5 ++ [44, 34, 108, 105, 115, 116, 34, 58, 91] ∧ Hid (A.length ≤ 7000000) ∧ ∀ w, (Op.stringOp .add (str A5) (⟨#[44, 34, 108, 105, 115, 116, 34, 58, 91]⟩ : ByteArray)).run Tryz.prog w = .ok (.string (str A)) w := add_stp A5 [44, 34, 108, 105, 115, 116, 34, 58, 91] 6000000 7000000 LA5 (by show _ ≤ _; decide) (by decide) (by decide)
    obtain ⟨A7, hA7, LA7, kA7⟩ : ∃ A, A = A6 ++ JL ∧ Hid (A.length ≤ 8000000) ∧ ∀ w, (Op.stringOp .add (str A6) (str JL)).run Tryz.prog w = .ok (.string (str A)) w := add_stp A6 JL 7000000 8000000 LA6 LJL (by decide) (by decide)
    obtain ⟨A8, hA8, LA8, kA8⟩ : ∃ A, A = A7 ++ [93, 44, 34, 116, 111, 112, 34, 58] ∧ Hid (A.length ≤ 9000000) ∧ ∀ w, (Op.stringOp .add (str A7) (⟨#[93, 44, 34, 116, 111, 112, 34, 58]⟩ : ByteArray)).run Tryz.prog w = .ok (.string (str A)) w := add_stp A7 [93, 44, 34, 116, 111, 112, 34, 58] 8000000 9000000 LA7 (by show _ ≤ _; decide) (by decide) (by decide)
    obtain ⟨A9, hA9, LA9, kA9⟩ : ∃ A, A = A8 ++ DT ∧ Hid (A.length ≤ 10000000) ∧ ∀ w, (Op.stringOp .add (str A8) (str DT)).run Tryz.prog w = .ok (.string (str A)) w := add_stp A8 DT 9000000 10000000 LA8 LDT (by decide) (by decide)
    obtain ⟨A10, hA10, LA10, kA10⟩ : ∃ A, A = A9 ++ [44, 34, 116, 121, 112, 101, 34, 58, 34, 112, 97, 116, 99, 104, 34, 125] ∧ Hid (A.length ≤ 11000000) ∧ ∀ w, (Op.stringOp .add (str A9) (⟨#[44, 34, 116, 121, 112, 101, 34, 58, 34, 112, 97, 116, 99, 104, 34, 125]⟩ : ByteArray)).run Tryz.prog w = .ok (.string (str A)) w := add_stp A9 [44, 34, 116, 121, 112, 101, 34, 58, 34, 112, 97, 116, 99, 104, 34, 125] 10000000 11000000 LA9 (by show _ ≤ _; decide) (by decide) (by decide)
    have HR : Hid (M = (A10, 0)) := by show _ = _; rw [hw, hA10, hA9, hA8, hA7, hA6, hA5, hA4, hA3, hA2, hA1]
    clear hw hA1 LA1 hA2 LA2 hA3 LA3 hA4 LA4 hA5 LA5 hA6 LA6 hA7 LA7 hA8 LA8 hA9 LA9 hA10 LA10 HLL HM HI
    have HS0 : Hid (∀ u, Below wr.heap.size wr u → (u.cell? ⟨X, 3, none⟩ = some (.int .i64 m.co) ∧ u.cell? ⟨X, 2, none⟩ = some (.int .i64 m.fr) ∧ u.cell? ⟨X, 4, none⟩ = some (.int .i64 m.la) ∧ u.cell? ⟨X, 5, none⟩ = some (.int .i64 m.top))) := fun u hb => by
     have r_X := (hb.block X (aI (uh HXr)).1).trans (uh HXr)
     exact ⟨(cR6 r_X), (cR6 r_X), (cR6 r_X), (cR6 r_X)⟩
    have HTR : Hid (∀ u u', Hid (Below wr.heap.size wr u) → Hid (Below u.heap.size u u') → Hid (Below wr.heap.size wr u')) := fun u u' h h1 => (uh h).trans ((uh h1).mono (uh h).size)
    have B0 : Hid (Below wr.heap.size wr wr.drew) := Below.drew (Below.refl _ _)
    have s0 := uh HS0 wr.drew (uh B0)
    have tok0 := True.intro
    go_upto_region 20 with fail
    go_region_held3 (fun w' => w'.cell? ⟨X, 3, none⟩ = some (.int .i64 m.co) ∧ w'.cell? ⟨X, 2, none⟩ = some (.int .i64 m.fr) ∧ w'.cell? ⟨X, 4, none⟩ = some (.int .i64 m.la) ∧ w'.cell? ⟨X, 5, none⟩ = some (.int .i64 m.top)) (first | with_reducible exact s1 | with_reducible exact s0) ((first
     | (go_at_call 38; have tk := tok4; refine (uh HDT _).mono ?_; rintro e u1 ⟨rfl, h1⟩; have B1 := uh HTR _ _ ‹Hid (Below wr.heap.size wr _)› h1; have s1 := uh HS0 _ (uh B1); have tok5 := True.intro)
     | (go_at_call 43; have tk := tok3; refine (uh HJN _ (uh ‹Hid (Below wr.heap.size wr _)›)).mono ?_; rintro e u1 ⟨rfl, h1⟩; have B1 := uh HTR _ _ ‹Hid (Below wr.heap.size wr _)› h1; have s1 := uh HS0 _ (uh B1); have tok4 := True.intro)
     | (go_at_call 38; have tk := tok2; refine (uh HDL _).mono ?_; rintro e u1 ⟨rfl, h1⟩; have B1 := uh HTR _ _ ‹Hid (Below wr.heap.size wr _)› h1; have s1 := uh HS0 _ (uh B1); have tok3 := True.intro)
     | (go_at_call 38; have tk := tok1; refine (uh HDF _).mono ?_; rintro e u1 ⟨rfl, h1⟩; have B1 := uh HTR _ _ ‹Hid (Below wr.heap.size wr _)› h1; have s1 := uh HS0 _ (uh B1); have tok2 := True.intro)
     | (go_at_call 38; have tk := tok0; refine (uh HDC _).mono ?_; rintro e u1 ⟨rfl, h1⟩; have B1 := uh HTR _ _ ‹Hid (Below wr.heap.size wr _)› h1; have s1 := uh HS0 _ (uh B1); have tok1 := True.intro)))
    go_wp2_with fail
    go_ret2
    exact ⟨by rw [uh HR]; try rfl, (uh HBf).trans ((uh B1).mono (uh HBf).size)⟩
   have HK5 : Hid (m.k = 5) := by
    have h := uh HB
    unfold mayBeM at h
    rw [if_neg (uh HK), if_neg hk2, if_neg hk3, if_neg hk4] at h
    show _ = _
    split at h
    ·assumption
    ·cases h
   have hk5 := uh HK5
   have s1 : (m.k == 1) = false := by rw [beq_eq_false_iff_ne]; omega
   have s2 : (m.k == 2) = false := by rw [beq_eq_false_iff_ne]; omega
   have s3 : (m.k == 3) = false := by rw [beq_eq_false_iff_ne]; omega
   have s4 : (m.k == 4) = false := by rw [beq_eq_false_iff_ne]; omega
   clear hk1 hk2 hk3 hk4 hk5
   have hw := wr_k5 (uh HI) (uh HB) (uh HK5)
   rw [← uh HM] at hw
   have HDT : Hid (∀ u, Calls Tryz.prog 38 #[.int .i64 m.top] u fun e w' => e = .returned (.string (str (Lib.itoa m.top))) ∧ Hid (Below u.heap.size u w')) := fun u => rd13 m.top u (uh HI).2.2.2.2.1
   have LDT : Hid ((Lib.itoa m.top).length ≤ 1000000) := by show _ ≤ _; have := Lib.itoa_length_le m.top (uh HI).2.2.2.2.1.1 (uh HI).2.2.2.2.1.2; omega
   generalize Lib.itoa m.top = DT at HDT LDT hw
   obtain ⟨A1, hA1, LA1, kA1⟩ : ∃ A, A = [123, 34, 116, 111, 112, 34, 58] ++ DT ∧ Hid (A.length ≤ 2000000) ∧ ∀ w, (Op.stringOp .add (⟨#[123, 34, 116, 111, 112, 34, 58]⟩ : ByteArray) (str DT)).run Tryz.prog w = .ok (.string (str A)) w := add_stp [123, 34, 116, 111, 112, 34, 58] DT 1000000 2000000 (by show _ ≤ _; decide) LDT (by decide) (by decide)
   obtain ⟨A2, hA2, LA2, kA2⟩ : ∃ A, A = A1 ++ [44, 34, 116, 121, 112, 101, 34, 58, 34, 112, 111, 107, 101, 34, 125] ∧ Hid (A.length ≤ 3000000) ∧ ∀ w, (Op.stringOp .add (str A1) (⟨#[44, 34, 116, 121, 112, 101, 34, 58, 34, 112, 111, 107, 101, 34, 125]⟩ : ByteArray)).run Tryz.prog w = .ok (.string (str A)) w := add_stp A1 [44, 34, 116, 121, 112, 101, 34, 58, 34, 112, 111, 107, 101, 34, 125] 2000000 3000000 LA1 (by show _ ≤ _; decide) (by decide) (by decide)
   have HR : Hid (M = (A2, 0)) := by show _ = _; rw [hw, hA2, hA1]
   clear hw hA1 LA1 hA2 LA2 HLL HM HI
   go_wp2_with fail
   refine (uh HDT wr).mono ?_
   rintro e v1 ⟨rfl, h1⟩
   have HC1 : Hid (Below wr.heap.size wr v1) := h1
   clear h1 p0 p1 p2 p3 p4 p5 p6
   go_wp2_with fail
   go_ret2
   exact ⟨by rw [uh HR]; try rfl, (uh HBf).trans ((uh HC1).mono (uh HBf).size)⟩
end Go.Proofs.YtmpjeahibfdehaaGreatDoor
end
section
set_option linter.unusedVariables false
set_option maxRecDepth 1000000
namespace Go.Proofs.YtmpjeahibfdehaaGreatDoor
open Go.RowKit

theorem rwrite13 (m : Mg) (a : Option Addr) (n c : Nat) (w : World) (hl : LRow w a n m.l) (hn9 : n ≤ 1000000) (hc : m.c.length ≤ 9223372036854775807) (hx : ∀ x ∈ m.l, LgL x) (hi : MiZ m) :
  Calls Tryz.prog 22 #[mgV m a n c] w fun e w' => e = .returned (.tuple #[.string (str (wrM m).1), .int .i64 (((wrM m).2 : Nat) : Int)]) ∧ Hid (Below w.heap.size w w') := by
 by_cases hk : m.k = 1
 ·exact rwr1 m a n c w hl hn9 hc hx hi hk
 ·exact rwr2 m a n c w hl hn9 hc hx hi hk
theorem lrow_ne7 {u : World} {b off R : Nat} {x : Lg} {i0 i2 i3 i4 i5 : Int} {s1 : ByteArray} {a : Option Addr} {n c : Nat} (row : u.heap[R]? = some (.cells #[.int .i64 i0, .string s1, .int .i64 i2, .int .i64 i3, .int .i64 i4, .int .i64 i5, .slice a n c] 24 (0, 0))) (hc : ∀ r v, (lgC x)[r]? = some v → u.cell? ⟨b, off + 0 * 6 + r, none⟩ = some v) : b ≠ R := by
 rintro rfl
 have h0 := hc 0 _ rfl
 have h3 := hc 3 _ rfl
 have h5 := hc 5 _ rfl
 rw [cR6 row] at h0 h3 h5
 rcases (show off = 0 ∨ off = 1 ∨ 2 ≤ off by omega) with rfl | rfl | ho
 ·simp at h0
 ·simp at h3
 ·rw [Array.getElem?_eq_none (by simp; omega)] at h5
  cases h5
set_option maxHeartbeats 32000000 in
theorem writes13 (m : Mg) (a : Option Addr) (n c : Nat) (w : World) (hE : Env4 w) (hl : LRow w a n m.l) (hi : MiZ m) (hx : ∀ x ∈ m.l, LgL x) :
  Calls Tryz.prog 7 #[mgV m a n c] w fun e w' => e = .returned (.bool true) ∧ Hid (Below w.heap.size w w') := by
 unfold mgV
 have k1 : (str m.c).size = m.c.length := str_size _
 obtain ⟨X, hX⟩ : ∃ X, X = w.heap.size := ⟨_, rfl⟩
 obtain ⟨W, hW⟩ : ∃ W, W = w.alloc (.cells #[.int .i64 m.k, .string (str m.c), .int .i64 m.fr, .int .i64 m.co, .int .i64 m.la, .int .i64 m.top, .slice a n c] 24) := ⟨_, rfl⟩
 have bW : Below w.heap.size w W := by rw [hW]; exact bA _
 have rX : W.heap[X]? = some (.cells #[.int .i64 m.k, .string (str m.c), .int .i64 m.fr, .int .i64 m.co, .int .i64 m.la, .int .i64 m.top, .slice a n c] 24 (0, 0)) := by rw [hW, hX]; exact heap_alloc_new _ _
 have HBW := hide bW
 have HX : Hid (∀ u, Below W.heap.size W u → u.heap[X]? = some (.cells #[.int .i64 m.k, .string (str m.c), .int .i64 m.fr, .int .i64 m.co, .int .i64 m.la, .int .i64 m.top, .slice a n c] 24 (0, 0))) := fun u hb => (hb.block X (aI rX).1).trans rX
 have HXW : Hid (X < W.heap.size) := (aI rX).1
 have HL : Hid (∀ u, Below W.heap.size W u → LRow u a n m.l) := fun u hb => (hl.below bW).below hb
 have HE : Hid (∀ u, Below W.heap.size W u → Env4 u) := fun u hb => (hE.below bW).below hb
 have HFN := hide (fine_any a n c m.l W (hl.below bW))
 have HAW : Hid (∀ u, Below W.heap.size W u → Calls Tryz.prog 10 #[] u fun e w' => e = .returned (.bool true) ∧ Hid (Below u.heap.size u w')) := fun u hb => awake13 u ((hE.below bW).below hb)
 have HN : Hid (n = m.l.length) := hl.1
 have HI := hide hi
 have HXL := hide hx
 obtain ⟨p0, p1, p2, p3, p4, p5, p6⟩ := cells7 rX
 clear hE hl hi hx bW rX
 go_enter Tryz.func7, Tryz.ntmps7
 go_upto_region 1 with fail
 rw [← hW, ← hX]
 clear hW hX
 go_wp2_with fail
 refine (uh HFN).mono ?_
 rintro e u1 ⟨rfl, h1⟩
 have HB1 : Hid (Below W.heap.size W u1) := h1
 clear HFN h1
 have hn50 : fnM m.l = true → n ≤ 50 := fun h => by have := fn_50 h; have := uh HN; omega
 generalize fnM m.l = bf at hn50 ⊢
 cases bf with
 | false =>
  have HA := hide (uh HAW u1 (uh HB1))
  have HBB : Hid (Below w.heap.size w u1) := (uh HBW).trans (((uh HB1)).mono (uh HBW).size)
  clear HAW HX HL HE
  go_wp2_with fail
  refine (uh HA).mono ?_
  rintro e u9 ⟨rfl, h9⟩
  clear HA
  go_wp2_with fail
  go_ret
  exact ⟨rfl, (uh HBB).trans ((uh h9).mono (uh HBB).size)⟩
 | true =>
 have hn9 := hn50 rfl
 clear hn50
 clear p0 p1 p2 p3 p4 p5 p6
 obtain ⟨p0, p1, p2, p3, p4, p5, p6⟩ := cells7 (uh HX u1 (uh HB1))
 by_cases hbig : 65536 < m.c.length
 ·have hbig' : (65536 : Int) < (m.c.length : Int) := by omega
  have HA := hide (uh HAW u1 (uh HB1))
  have HBB : Hid (Below w.heap.size w u1) := (uh HBW).trans (((uh HB1)).mono (uh HBW).size)
  clear HAW HX HL HE
  go_wp2_with fail
  refine (uh HA).mono ?_
  rintro e u9 ⟨rfl, h9⟩
  clear HA
  go_wp2_with fail
  go_ret
  exact ⟨rfl, (uh HBB).trans ((uh h9).mono (uh HBB).size)⟩
 have hbig' : ¬ (65536 : Int) < (m.c.length : Int) := by omega
 have HCL : Hid (m.c.length ≤ 9223372036854775807) := by show _ ≤ _; omega
 clear hbig
 obtain ⟨G, hG⟩ : ∃ G, G = u1.heap.size := ⟨_, rfl⟩
 obtain ⟨U, hU⟩ : ∃ U, U = u1.alloc (.cells #[.int .i64 m.k, .string (str m.c), .int .i64 m.fr, .int .i64 m.co, .int .i64 m.la, .int .i64 m.top, .slice a n c] 24) := ⟨_, rfl⟩
 have bU : Below u1.heap.size u1 U := by rw [hU]; exact bA _
 have HBU : Hid (Below W.heap.size W U) := (uh HB1).trans (bU.mono (uh HB1).size)
 have rG : U.heap[G]? = some (.cells #[.int .i64 m.k, .string (str m.c), .int .i64 m.fr, .int .i64 m.co, .int .i64 m.la, .int .i64 m.top, .slice a n c] 24 (0, 0)) := by rw [hU, hG]; exact heap_alloc_new _ _
 have HRG := hide rG
 have HGW : Hid (W.heap.size ≤ G) := by show _ ≤ _; rw [hG]; exact (uh HB1).size
 have HCN := hide (lclone_any a c m.l U (by have h := uh HL U (uh HBU); rw [uh HN] at h; exact h) (by have := uh HN; omega))
 rw [← uh HN] at HCN
 clear bU rG
 go_upto_region 4 with fail
 rw [← hU, ← hG]
 clear hU hG p0 p1 p2 p3 p4 p5 p6
 obtain ⟨p0, p1, p2, p3, p4, p5, p6⟩ := cells7 (uh HX U (uh HBU))
 go_wp2_with fail
 refine (uh HCN).mono ?_
 rintro e u2 ⟨a2, c2, rfl, hl2, h2⟩
 have rG2 := ((uh h2).block G (aI (uh HRG)).1).trans (uh HRG)
 obtain ⟨z0, z1, z2, z3, z4, z5, z6⟩ := cells7 rG2
 have f6 := frozen_of_row u2 G 6 _ _ rG2
 obtain ⟨D, hD⟩ : ∃ D, D = u2.setCell ⟨G, 6, none⟩ (.slice a2 n c2) := ⟨_, rfl⟩
 have rGD : D.heap[G]? = some (.cells #[.int .i64 m.k, .string (str m.c), .int .i64 m.fr, .int .i64 m.co, .int .i64 m.la, .int .i64 m.top, .slice a2 n c2] 24 (0, 0)) := by rw [hD]; exact hS6 rG2
 have HBD : Hid (Below W.heap.size W D) := by
  show Below _ _ _
  rw [hD]
  exact ((uh HBU).trans ((uh h2).mono (uh HBU).size)).setCell (uh HGW) _
 have HLD : Hid (LRow D a2 n m.l) := by
  have h := uh hl2
  refine ⟨h.1, fun hne => ?_⟩
  obtain ⟨b, off, e, hlt, hc⟩ := h.2 hne
  have hbG : b ≠ G := by
   obtain ⟨x, hx⟩ : ∃ x, m.l[0]? = some x := ⟨_, List.getElem?_eq_getElem (List.length_pos_iff.2 hne)⟩
   exact lrow_ne7 rG2 (hc 0 x hx)
  refine ⟨b, off, e, by rw [hD]; simpa using hlt, fun i x hx r v hv => cell_keep (by rw [hD]; exact Below.heap_setCell _ ⟨G, 6, none⟩ _ b hbG) (hc i x hx r v hv)⟩
 have HRD := hide rGD
 clear rG2 rGD HCN hl2 h2 p0 p1 p2 p3 p4 p5 p6 HRG
 go_wp2_with fail
 rw [← hD]
 clear hD z0 z1 z2 z3 z4 z5 z6 f6
 have HWR := hide (write_any m a2 n c2 D (uh HE D (uh HBD)) (uh HLD) (mz_of (uh HI)))
 unfold mgV at HWR
 refine (uh HWR).mono ?_
 rintro e u3 ⟨rfl, h3⟩
 have HB3 : Hid (Below W.heap.size W u3) := (uh HBD).trans ((uh h3).mono (uh HBD).size)
 have HD3 : Hid (Below D.heap.size D u3) := h3
 have HRW := hide (rwrite13 m a n c u3 (uh HL u3 (uh HB3)) (by omega) (uh HCL) (uh HXL) (uh HI))
 unfold mgV at HRW
 clear HWR h3
 obtain ⟨p0, p1, p2, p3, p4, p5, p6⟩ := cells7 (uh HX u3 (uh HB3))
 go_wp2_with fail
 refine (uh HRW).mono ?_
 rintro e u4 ⟨rfl, h4⟩
 have HB4 : Hid (Below W.heap.size W u4) := (uh HB3).trans ((uh h4).mono (uh HB3).size)
 have HD4 : Hid (Below D.heap.size D u4) := (uh HD3).trans ((uh h4).mono (uh HD3).size)
 have HX4 := hide (uh HX u4 (uh HB4))
 have HG4 : Hid (u4.heap[G]? = some (.cells #[.int .i64 m.k, .string (str m.c), .int .i64 m.fr, .int .i64 m.co, .int .i64 m.la, .int .i64 m.top, .slice a2 n c2] 24 (0, 0))) := ((uh HD4).block G (aI (uh HRD)).1).trans (uh HRD)
 have HC1 : Hid (∀ u, Below u4.heap.size u4 u → Calls Tryz.prog 18 #[mgV m a2 n c2] u fun e w' => e = .returned (.int .i64 (if mayBeM m then 0 else 130)) ∧ Hid (Below u.heap.size u w')) := fun u hu => check_any2 m a2 n c2 u (uh HE u ((uh HB4).trans (hu.mono (uh HB4).size))) (((uh HLD).below (uh HD4)).below hu)
 have HC2 : Hid (∀ u, Below u4.heap.size u4 u → Calls Tryz.prog 23 #[mgV m a n c] u fun e w' => e = .returned (.int .i64 (if mayBeM m then 0 else 130)) ∧ Hid (Below u.heap.size u w')) := fun u hu => rcheck13 m a n c u (uh HL u ((uh HB4).trans (hu.mono (uh HB4).size))) (by omega) (uh HCL) (uh HXL) (uh HI)
 have HC3 : Hid (∀ u, Below u4.heap.size u4 u → Calls Tryz.prog 13 #[mgV m a2 n c2, mgV m a n c] u fun e w' => e = .returned (.bool true) ∧ Hid (Below u.heap.size u w')) := fun u hu => same13 m a2 n c2 a n c u (((uh HLD).below (uh HD4)).below hu) (uh HL u ((uh HB4).trans (hu.mono (uh HB4).size))) (by omega)
 have HC4 : Hid (∀ u, Below u4.heap.size u4 u → Calls Tryz.prog 10 #[] u fun e w' => e = .returned (.bool true) ∧ Hid (Below u.heap.size u w')) := fun u hu => uh HAW u ((uh HB4).trans (hu.mono (uh HB4).size))
 unfold mgV at HC1 HC2 HC3
 have HBF : Hid (Below w.heap.size w u4) := (uh HBW).trans ((uh HB4).mono (uh HBW).size)
 generalize (if mayBeM m = true then (0 : Int) else 130) = E at HC1 HC2
 generalize (wrM m).1 = s
 generalize (wrM m).2 = ee
 clear HRW h4 p0 p1 p2 p3 p4 p5 p6 HX HL HE HI HXL HCL HAW HRD HLD HBD HB3 HD3 HD4 HB4 HBU HB1 HGW HXW HN HBW
 have HS0 : Hid (∀ u, Below u4.heap.size u4 u → (u.cell? ⟨G, 0, none⟩ = some (.int .i64 m.k) ∧ u.cell? ⟨G, 1, none⟩ = some (.string (str m.c)) ∧ u.cell? ⟨G, 2, none⟩ = some (.int .i64 m.fr) ∧ u.cell? ⟨G, 3, none⟩ = some (.int .i64 m.co) ∧ u.cell? ⟨G, 4, none⟩ = some (.int .i64 m.la) ∧ u.cell? ⟨G, 5, none⟩ = some (.int .i64 m.top) ∧ u.cell? ⟨G, 6, none⟩ = some (.slice a2 n c2) ∧ u.cell? ⟨X, 0, none⟩ = some (.int .i64 m.k) ∧ u.cell? ⟨X, 1, none⟩ = some (.string (str m.c)) ∧ u.cell? ⟨X, 2, none⟩ = some (.int .i64 m.fr) ∧ u.cell? ⟨X, 3, none⟩ = some (.int .i64 m.co) ∧ u.cell? ⟨X, 4, none⟩ = some (.int .i64 m.la) ∧ u.cell? ⟨X, 5, none⟩ = some (.int .i64 m.top) ∧ u.cell? ⟨X, 6, none⟩ = some (.slice a n c))) := fun u hb => by
  have r_G := (hb.block G (aI (uh HG4)).1).trans (uh HG4)
  have r_X := (hb.block X (aI (uh HX4)).1).trans (uh HX4)
  exact ⟨(cR6 r_G), (cR6 r_G), (cR6 r_G), (cR6 r_G), (cR6 r_G), (cR6 r_G), (cR6 r_G), (cR6 r_X), (cR6 r_X), (cR6 r_X), (cR6 r_X), (cR6 r_X), (cR6 r_X), (cR6 r_X)⟩
 have HTR : Hid (∀ u u', Hid (Below u4.heap.size u4 u) → Hid (Below u.heap.size u u') → Hid (Below u4.heap.size u4 u')) := fun u u' h h1 => (uh h).trans ((uh h1).mono (uh h).size)
 have B0 : Hid (Below u4.heap.size u4 u4.drew) := Below.drew (Below.refl _ _)
 have s0 := uh HS0 u4.drew (uh B0)
 have tok0 := True.intro
 go_upto_region 7 with fail
 go_region_held3 (fun w' => w'.cell? ⟨G, 0, none⟩ = some (.int .i64 m.k) ∧ w'.cell? ⟨G, 1, none⟩ = some (.string (str m.c)) ∧ w'.cell? ⟨G, 2, none⟩ = some (.int .i64 m.fr) ∧ w'.cell? ⟨G, 3, none⟩ = some (.int .i64 m.co) ∧ w'.cell? ⟨G, 4, none⟩ = some (.int .i64 m.la) ∧ w'.cell? ⟨G, 5, none⟩ = some (.int .i64 m.top) ∧ w'.cell? ⟨G, 6, none⟩ = some (.slice a2 n c2) ∧ w'.cell? ⟨X, 0, none⟩ = some (.int .i64 m.k) ∧ w'.cell? ⟨X, 1, none⟩ = some (.string (str m.c)) ∧ w'.cell? ⟨X, 2, none⟩ = some (.int .i64 m.fr) ∧ w'.cell? ⟨X, 3, none⟩ = some (.int .i64 m.co) ∧ w'.cell? ⟨X, 4, none⟩ = some (.int .i64 m.la) ∧ w'.cell? ⟨X, 5, none⟩ = some (.int .i64 m.top) ∧ w'.cell? ⟨X, 6, none⟩ = some (.slice a n c)) (first | with_reducible exact s1 | with_reducible exact s0) ((first
  | (go_at_call 10; have tk := tok3; refine (uh HC4 _ (uh ‹Hid (Below u4.heap.size u4 _)›)).mono ?_; rintro e u1 ⟨rfl, h1⟩; have B1 := uh HTR _ _ ‹Hid (Below u4.heap.size u4 _)› h1; have s1 := uh HS0 _ (uh B1); have tok4 := True.intro)
  | (go_at_call 13; have tk := tok2; refine (uh HC3 _ (uh ‹Hid (Below u4.heap.size u4 _)›)).mono ?_; rintro e u1 ⟨rfl, h1⟩; have B1 := uh HTR _ _ ‹Hid (Below u4.heap.size u4 _)› h1; have s1 := uh HS0 _ (uh B1); have tok3 := True.intro)
  | (go_at_call 23; have tk := tok1; refine (uh HC2 _ (uh ‹Hid (Below u4.heap.size u4 _)›)).mono ?_; rintro e u1 ⟨rfl, h1⟩; have B1 := uh HTR _ _ ‹Hid (Below u4.heap.size u4 _)› h1; have s1 := uh HS0 _ (uh B1); have tok2 := True.intro)
  | (go_at_call 18; have tk := tok0; refine (uh HC1 _ (uh ‹Hid (Below u4.heap.size u4 _)›)).mono ?_; rintro e u1 ⟨rfl, h1⟩; have B1 := uh HTR _ _ ‹Hid (Below u4.heap.size u4 _)› h1; have s1 := uh HS0 _ (uh B1); have tok1 := True.intro)))
 go_wp2_with fail
 go_ret
 exact ⟨rfl, (uh HBF).trans ((uh B1).mono (uh HBF).size)⟩
theorem msgWrites_walk (m : Mg) (a : Option Addr) (c : Nat) (w : World) (hl : LRow w a m.l.length m.l) (hi : MiZ m) (hx : ∀ x ∈ m.l, LgL x) (hE : Env4 w) :
  Calls Tryz.prog 7 #[mgV m a m.l.length c] w fun e w' => e = .returned (.bool true) ∧ Below w.heap.size w w' :=
 (writes13 m a m.l.length c w hE hl hi hx).mono fun e w' h => ⟨h.1, uh h.2⟩
end Go.Proofs.YtmpjeahibfdehaaGreatDoor
end
