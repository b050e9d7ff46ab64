/-
  httpd's reference: Read; THE WALK of HttpdReads.
-/
import Derived.Test.YtonaekkenggmbaaGreatDoorPkHadsbo
import Derived.Test.YtonaekkenggmbaaGreatDoorPkHadsbp
import Derived.Test.YtonaekkenggmbaaGreatDoorPkHadsbb
section
set_option linter.unusedVariables false
set_option maxRecDepth 1000000
namespace Go.Proofs.YtonaekkenggmbaaGreatDoor
open Go.RowKit

theorem spl_cons (s : List UInt8) : ∃ l0 rest, Lib.split s [13, 10] = l0 :: rest := by
  rcases whM_cases [13, 10] s with ⟨h, _⟩ | ⟨i, h, _⟩
  · exact ⟨s, [], spl_miss s _ h⟩
  · exact ⟨_, _, spl_hit s _ i (by decide) h⟩
theorem own_nso {w : World} {base : Nat} {a : Option Addr} {cap : Nat} {l : List (List UInt8)} (h : OwnN w base a cap l) : NsO w a l := ⟨fun hne => by
  obtain ⟨g, e, _, _, hc⟩ := h.some (List.length_pos_iff.2 hne)
  refine ⟨g, 0, e, fun t x hx => ?_⟩
  have hlt := (List.getElem?_eq_some_iff.1 hx).1
  have := hc t hlt
  rw [show l.getD t [] = x by rw [List.getD_eq_getElem?_getD, hx]; rfl] at this
  rw [Nat.zero_add]
  exact this⟩
theorem spl_mem_len (s : List UInt8) : ∀ x ∈ Lib.split s [13, 10], x.length ≤ s.length := split_len _ _ s
theorem spl_num8 (s : List UInt8) : (Lib.split s [13, 10]).length ≤ s.length + 2 := by
  have h1 := splK_len [13, 10] (Lib.count s [13, 10]) s
  have h2 := Lib.count_le s [13, 10]
  unfold Lib.split
  omega
theorem Bs.same8 {w w' : World} {a : Option Addr} {cap : Nat} {l : List UInt8} (h : Bs w a cap l) (e : ∀ k, blk a = some k → w'.heap[k]? = w.heap[k]?) : Bs w' a cap l := by
  refine ⟨fun hne => ?_, h.le, h.most, h.nz⟩
  obtain ⟨b, off, rfl, hc⟩ := h.row hne
  exact ⟨b, off, rfl, fun i hi => by rw [World.cell?_of_block (w := w) (e b rfl)]; exact hc i hi⟩
set_option maxHeartbeats 8000000 in
theorem rread8 (x : Option Addr) (cx : Nat) (l : List UInt8) (w : World) (hb : Bs w x cx l) (hl : l.length ≤ 1000000) :
    Calls Tryz.prog 36 #[.slice x l.length cx] w (RdP l w) := by
  obtain ⟨V, hV⟩ : ∃ V, V = w.alloc (.cells #[.int .i64 0, .slice none 0 0, .slice none 0 0] 58) := ⟨_, rfl⟩
  have HBV : Hid (Below w.heap.size w V) := by rw [hV]; exact (Below.refl _ _).alloc (Nat.le_refl _) _
  have HRV : Hid (V.heap[w.heap.size]? = some (.cells #[.int .i64 0, .slice none 0 0, .slice none 0 0] 58 (0, 0))) := by rw [hV]; exact heap_alloc_new w _
  have kc := run_str V x l.length cx l (hb.below (unhide HBV) (Nat.le_refl _)).row rfl
  have HW : Hid (∀ w, Calls Tryz.prog 53 #[.string ⟨#[13, 10, 13, 10]⟩, .string (str l)] w fun e w' => e = .returned (.int .i64 (whM hend l : Int)) ∧ w' = w) := fun w => where_any hend l w (by omega) (by decide) (by decide)
  have HCW := hide (chM_wh l)
  have zl : (str l).size = l.length := str_size l
  have HQL : Hid (whM hend l ≤ l.length) := whM_le _ _
  obtain ⟨q, hq⟩ : ∃ q, q = whM hend l := ⟨_, rfl⟩
  rw [← hq] at HW HCW HQL
  clear hb hq
  go_enter Tryz.func36, Tryz.ntmps36
  go_upto_region 1 with fail
  rw [← hV]
  clear hV
  go_wp2_with fail
  refine (unhide HW _).mono ?_
  rintro e w1 ⟨rfl, rfl⟩
  clear HW kc
  have hql := unhide HQL
  by_cases c1 : 8192 < q
  · have c1' : (8192 : Int) < (q : Int) := by omega
    by_cases c2 : q < l.length
    · have c2' : (q : Int) < (l.length : Int) := by omega
      have HC8 : Hid (chM l = ([], 80)) := (unhide HCW).1 ⟨c1, .inl c2⟩
      clear c1 c2 hql
      have z0 : w1.cell? ⟨w.heap.size, 0, none⟩ = some (.int .i64 0) := cell_of_row _ _ _ _ _ _ (unhide HRV)
      have z1 : w1.cell? ⟨w.heap.size, 1, none⟩ = some (.slice none 0 0) := cell_of_row _ _ _ _ _ _ (unhide HRV)
      have z2 : w1.cell? ⟨w.heap.size, 2, none⟩ = some (.slice none 0 0) := cell_of_row _ _ _ _ _ _ (unhide HRV)
      have f0 := frozen_of_row w1 w.heap.size 0 _ _ (unhide HRV)
      have f1 := frozen_of_row w1 w.heap.size 1 _ _ (unhide HRV)
      have f2 := frozen_of_row w1 w.heap.size 2 _ _ (unhide HRV)
      obtain ⟨X, hX⟩ : ∃ X, X = ((w1.setCell ⟨w.heap.size, 0, none⟩ (.int .i64 0)).setCell ⟨w.heap.size, 1, none⟩ (.slice none 0 0)).setCell ⟨w.heap.size, 2, none⟩ (.slice none 0 0) := ⟨_, rfl⟩
      obtain ⟨s1, s2, s3⟩ := set3a w1 w.heap.size _ _ _ (.int .i64 0) (.slice none 0 0) (.slice none 0 0) _ (unhide HRV)
      rw [← hX] at s1 s2 s3
      have q0 : X.cell? ⟨w.heap.size, 0, none⟩ = some (.int .i64 0) := cell_of_row _ _ _ _ _ _ s1
      have q1 : X.cell? ⟨w.heap.size, 1, none⟩ = some (.slice none 0 0) := cell_of_row _ _ _ _ _ _ s1
      have q2 : X.cell? ⟨w.heap.size, 2, none⟩ = some (.slice none 0 0) := cell_of_row _ _ _ _ _ _ s1
      have HBX : Hid (Below w.heap.size w X) := s3 w _ (unhide HBV) (Nat.le_refl _)
      have HFF : Hid (RdR l 0 [] [] 0 80) := .inr ⟨by decide, rfl, rfl, rfl, rfl, .inl ⟨by rw [unhide HC8]; decide, by rw [unhide HC8]⟩⟩
      clear s1 s2 s3
      go_wp2_with fail
      rw [← hX]
      refine bodyPost_ret (v := .tuple #[.agg #[.int .i64 0, .slice none 0 0, .slice none 0 0], .int .i64 0, .int .i64 80]) (by simp [results, Tryz.results36, go_sem, q0, q1, q2]) rfl ?_
      exact RdP.mk 0 [] [] 0 80 none 0 none 0 rfl HFF ⟨⟨fun h => absurd rfl h, Nat.zero_le _⟩, ⟨fun h => absurd rfl h, Nat.zero_le _, Nat.zero_le _, fun _ => rfl⟩⟩ HBX

    have c2' : ¬ (q : Int) < (l.length : Int) := by omega
    by_cases c3 : 8196 ≤ q
    · have c3' : (8196 : Int) ≤ (q : Int) := by omega
      have HC8 : Hid (chM l = ([], 80)) := (unhide HCW).1 ⟨c1, .inr c3⟩
      clear c1 c2 c3 hql
      have z0 : w1.cell? ⟨w.heap.size, 0, none⟩ = some (.int .i64 0) := cell_of_row _ _ _ _ _ _ (unhide HRV)
      have z1 : w1.cell? ⟨w.heap.size, 1, none⟩ = some (.slice none 0 0) := cell_of_row _ _ _ _ _ _ (unhide HRV)
      have z2 : w1.cell? ⟨w.heap.size, 2, none⟩ = some (.slice none 0 0) := cell_of_row _ _ _ _ _ _ (unhide HRV)
      have f0 := frozen_of_row w1 w.heap.size 0 _ _ (unhide HRV)
      have f1 := frozen_of_row w1 w.heap.size 1 _ _ (unhide HRV)
      have f2 := frozen_of_row w1 w.heap.size 2 _ _ (unhide HRV)
      obtain ⟨X, hX⟩ : ∃ X, X = ((w1.setCell ⟨w.heap.size, 0, none⟩ (.int .i64 0)).setCell ⟨w.heap.size, 1, none⟩ (.slice none 0 0)).setCell ⟨w.heap.size, 2, none⟩ (.slice none 0 0) := ⟨_, rfl⟩
      obtain ⟨s1, s2, s3⟩ := set3a w1 w.heap.size _ _ _ (.int .i64 0) (.slice none 0 0) (.slice none 0 0) _ (unhide HRV)
      rw [← hX] at s1 s2 s3
      have q0 : X.cell? ⟨w.heap.size, 0, none⟩ = some (.int .i64 0) := cell_of_row _ _ _ _ _ _ s1
      have q1 : X.cell? ⟨w.heap.size, 1, none⟩ = some (.slice none 0 0) := cell_of_row _ _ _ _ _ _ s1
      have q2 : X.cell? ⟨w.heap.size, 2, none⟩ = some (.slice none 0 0) := cell_of_row _ _ _ _ _ _ s1
      have HBX : Hid (Below w.heap.size w X) := s3 w _ (unhide HBV) (Nat.le_refl _)
      have HFF : Hid (RdR l 0 [] [] 0 80) := .inr ⟨by decide, rfl, rfl, rfl, rfl, .inl ⟨by rw [unhide HC8]; decide, by rw [unhide HC8]⟩⟩
      clear s1 s2 s3
      go_wp2_with fail
      rw [← hX]
      refine bodyPost_ret (v := .tuple #[.agg #[.int .i64 0, .slice none 0 0, .slice none 0 0], .int .i64 0, .int .i64 80]) (by simp [results, Tryz.results36, go_sem, q0, q1, q2]) rfl ?_
      exact RdP.mk 0 [] [] 0 80 none 0 none 0 rfl HFF ⟨⟨fun h => absurd rfl h, Nat.zero_le _⟩, ⟨fun h => absurd rfl h, Nat.zero_le _, Nat.zero_le _, fun _ => rfl⟩⟩ HBX

    have c3' : ¬ (8196 : Int) ≤ (q : Int) := by omega
    have c4' : ((q : Int) == (l.length : Int)) = true := by rw [beq_iff_eq]; omega
    have HC8 : Hid (chM l = ([], 2)) := (unhide HCW).2.1 (by omega) (by omega)
    clear c1 c2 c3 hql
    have z0 : w1.cell? ⟨w.heap.size, 0, none⟩ = some (.int .i64 0) := cell_of_row _ _ _ _ _ _ (unhide HRV)
    have z1 : w1.cell? ⟨w.heap.size, 1, none⟩ = some (.slice none 0 0) := cell_of_row _ _ _ _ _ _ (unhide HRV)
    have z2 : w1.cell? ⟨w.heap.size, 2, none⟩ = some (.slice none 0 0) := cell_of_row _ _ _ _ _ _ (unhide HRV)
    have f0 := frozen_of_row w1 w.heap.size 0 _ _ (unhide HRV)
    have f1 := frozen_of_row w1 w.heap.size 1 _ _ (unhide HRV)
    have f2 := frozen_of_row w1 w.heap.size 2 _ _ (unhide HRV)
    obtain ⟨X, hX⟩ : ∃ X, X = ((w1.setCell ⟨w.heap.size, 0, none⟩ (.int .i64 0)).setCell ⟨w.heap.size, 1, none⟩ (.slice none 0 0)).setCell ⟨w.heap.size, 2, none⟩ (.slice none 0 0) := ⟨_, rfl⟩
    obtain ⟨s1, s2, s3⟩ := set3a w1 w.heap.size _ _ _ (.int .i64 0) (.slice none 0 0) (.slice none 0 0) _ (unhide HRV)
    rw [← hX] at s1 s2 s3
    have q0 : X.cell? ⟨w.heap.size, 0, none⟩ = some (.int .i64 0) := cell_of_row _ _ _ _ _ _ s1
    have q1 : X.cell? ⟨w.heap.size, 1, none⟩ = some (.slice none 0 0) := cell_of_row _ _ _ _ _ _ s1
    have q2 : X.cell? ⟨w.heap.size, 2, none⟩ = some (.slice none 0 0) := cell_of_row _ _ _ _ _ _ s1
    have HBX : Hid (Below w.heap.size w X) := s3 w _ (unhide HBV) (Nat.le_refl _)
    have HFF : Hid (RdR l 0 [] [] 0 2) := .inr ⟨by decide, rfl, rfl, rfl, rfl, .inl ⟨by rw [unhide HC8]; decide, by rw [unhide HC8]⟩⟩
    clear s1 s2 s3
    go_wp2_with fail
    rw [← hX]
    refine bodyPost_ret (v := .tuple #[.agg #[.int .i64 0, .slice none 0 0, .slice none 0 0], .int .i64 0, .int .i64 2]) (by simp [results, Tryz.results36, go_sem, q0, q1, q2]) rfl ?_
    exact RdP.mk 0 [] [] 0 2 none 0 none 0 rfl HFF ⟨⟨fun h => absurd rfl h, Nat.zero_le _⟩, ⟨fun h => absurd rfl h, Nat.zero_le _, Nat.zero_le _, fun _ => rfl⟩⟩ HBX

  have c1' : ¬ (8192 : Int) < (q : Int) := by omega
  by_cases c4 : q = l.length
  · have c4' : ((q : Int) == (l.length : Int)) = true := by rw [c4]; simp
    have HC8 : Hid (chM l = ([], 2)) := (unhide HCW).2.1 (by omega) c4
    clear c1 c4 hql
    have z0 : w1.cell? ⟨w.heap.size, 0, none⟩ = some (.int .i64 0) := cell_of_row _ _ _ _ _ _ (unhide HRV)
    have z1 : w1.cell? ⟨w.heap.size, 1, none⟩ = some (.slice none 0 0) := cell_of_row _ _ _ _ _ _ (unhide HRV)
    have z2 : w1.cell? ⟨w.heap.size, 2, none⟩ = some (.slice none 0 0) := cell_of_row _ _ _ _ _ _ (unhide HRV)
    have f0 := frozen_of_row w1 w.heap.size 0 _ _ (unhide HRV)
    have f1 := frozen_of_row w1 w.heap.size 1 _ _ (unhide HRV)
    have f2 := frozen_of_row w1 w.heap.size 2 _ _ (unhide HRV)
    obtain ⟨X, hX⟩ : ∃ X, X = ((w1.setCell ⟨w.heap.size, 0, none⟩ (.int .i64 0)).setCell ⟨w.heap.size, 1, none⟩ (.slice none 0 0)).setCell ⟨w.heap.size, 2, none⟩ (.slice none 0 0) := ⟨_, rfl⟩
    obtain ⟨s1, s2, s3⟩ := set3a w1 w.heap.size _ _ _ (.int .i64 0) (.slice none 0 0) (.slice none 0 0) _ (unhide HRV)
    rw [← hX] at s1 s2 s3
    have q0 : X.cell? ⟨w.heap.size, 0, none⟩ = some (.int .i64 0) := cell_of_row _ _ _ _ _ _ s1
    have q1 : X.cell? ⟨w.heap.size, 1, none⟩ = some (.slice none 0 0) := cell_of_row _ _ _ _ _ _ s1
    have q2 : X.cell? ⟨w.heap.size, 2, none⟩ = some (.slice none 0 0) := cell_of_row _ _ _ _ _ _ s1
    have HBX : Hid (Below w.heap.size w X) := s3 w _ (unhide HBV) (Nat.le_refl _)
    have HFF : Hid (RdR l 0 [] [] 0 2) := .inr ⟨by decide, rfl, rfl, rfl, rfl, .inl ⟨by rw [unhide HC8]; decide, by rw [unhide HC8]⟩⟩
    clear s1 s2 s3
    go_wp2_with fail
    rw [← hX]
    refine bodyPost_ret (v := .tuple #[.agg #[.int .i64 0, .slice none 0 0, .slice none 0 0], .int .i64 0, .int .i64 2]) (by simp [results, Tryz.results36, go_sem, q0, q1, q2]) rfl ?_
    exact RdP.mk 0 [] [] 0 2 none 0 none 0 rfl HFF ⟨⟨fun h => absurd rfl h, Nat.zero_le _⟩, ⟨fun h => absurd rfl h, Nat.zero_le _, Nat.zero_le _, fun _ => rfl⟩⟩ HBX

  have c4' : ((q : Int) == (l.length : Int)) = false := by rw [beq_eq_false_iff_ne]; omega
  obtain ⟨k1, k2, k3⟩ := (unhide HCW).2.2 (by omega) c4
  have HC8 := hide k1
  have x1 : (str l).extract 0 q = str (l.take q) := cut_to l q
  have hi0 : (0 : Int) ≤ (q : Int) := by omega
  have hi1 : (q : Int) ≤ (l.length : Int) := by omega
  obtain ⟨hd, hhd⟩ : ∃ hd, hd = l.take q := ⟨_, rfl⟩
  rw [← hhd] at x1 HC8
  have hhl : hd.length = q := by rw [hhd]; simp; omega
  have HHL := hide hhl
  have HCU := hide (cut8 hd w1 (by omega))
  clear c1 c4 hql k1 hhd hhl HCW HQL
  go_wp2_with fail
  refine (unhide HCU).mono ?_
  rintro e w2 ⟨a, c, L, rfl, HL, HON, HB2⟩
  obtain ⟨l0, rest, hsp⟩ := spl_cons hd
  obtain ⟨b, hae, hcr, HN2⟩ : ∃ b, a = some ⟨b, 0, none⟩ ∧ rest.length + 1 ≤ c ∧ Hid (NsO w2 (some ⟨b, 0, none⟩) (l0 :: rest)) := by
    have hLe : L = l0 :: rest := (unhide HL).trans hsp
    rcases (unhide HON).cases with ⟨_, _, h⟩ | ⟨g, cur, rfl, _, _, hle, _⟩
    · rw [h] at hLe; cases hLe
    · refine ⟨g, rfl, by rw [hLe] at hle; exact hle, ?_⟩
      rw [← hLe]
      exact own_nso (unhide HON)
  have hLl : L.length = rest.length + 1 := by rw [(unhide HL).trans hsp]; rfl
  subst hae
  rw [hLl]
  have hlen : ∀ z ∈ l0 :: rest, z.length ≤ 1000000 := fun z hz => by
    rw [← hsp] at hz
    have := spl_mem_len hd z hz
    have := unhide HHL
    omega
  have hrl : rest.length ≤ 1000000 := by
    have := spl_num8 hd
    rw [hsp] at this
    simp at this
    have := unhide HHL
    omega
  have HHE := hide (rhead8 hd l0 rest b c w2 hsp (unhide HN2) hcr hrl hlen)
  have HBw2 : Hid (Below w.heap.size w w2) := (unhide HBV).trans ((unhide HB2).mono (unhide HBV).size)
  have HRw2 : Hid (w2.heap[w.heap.size]? = some (.cells #[.int .i64 0, .slice none 0 0, .slice none 0 0] 58 (0, 0))) := ((unhide HB2).block _ (Array.getElem?_eq_some_iff.1 (unhide HRV)).1).trans (unhide HRV)
  clear HCU hsp hLl hlen hrl HL HON HB2 HN2 hcr HBV HRV
  go_wp2_with fail
  refine (unhide HHE).mono ?_
  rintro e w3 hrap
  obtain ⟨s, H, n, bb, hp, hc, rfl, HRS, HHD, HB3⟩ := hrap
  have HBw3 : Hid (Below w.heap.size w w3) := (unhide HBw2).trans ((unhide HB3).mono (unhide HBw2).size)
  have HRw3 : Hid (w3.heap[w.heap.size]? = some (.cells #[.int .i64 0, .slice none 0 0, .slice none 0 0] 58 (0, 0))) := ((unhide HB3).block _ (Array.getElem?_eq_some_iff.1 (unhide HRw2)).1).trans (unhide HRw2)
  obtain ⟨o, ho⟩ : ∃ o, o = Obj.cells #[.int .i64 s, .slice hp H.length hc, .slice none 0 0] 58 := ⟨_, rfl⟩
  obtain ⟨U, hU⟩ : ∃ U, U = w3.alloc o := ⟨_, rfl⟩
  have hbU : Below w3.heap.size w3 U := by rw [hU]; exact (Below.refl _ _).alloc (Nat.le_refl _) _
  have HBU : Hid (Below w.heap.size w U) := (unhide HBw3).trans (hbU.mono (unhide HBw3).size)
  have HRU : Hid (U.heap[w.heap.size]? = some (.cells #[.int .i64 0, .slice none 0 0, .slice none 0 0] 58 (0, 0))) := (hbU.block _ (Array.getElem?_eq_some_iff.1 (unhide HRw3)).1).trans (unhide HRw3)
  obtain ⟨g7, hg7⟩ : ∃ g, g = w3.heap.size := ⟨_, rfl⟩
  have HAU : Hid (U.heap[g7]? = some (.cells #[.int .i64 s, .slice hp H.length hc, .slice none 0 0] 58 (0, 0))) := by rw [hg7, hU, ho]; exact heap_alloc_new w3 _
  have HHU : Hid (HdR U hp H ∧ ∀ k, blk hp = some k → w.heap.size < k ∧ k < g7) := ⟨(unhide HHD).1.below hbU (Nat.le_refl _), fun k hk => ⟨Nat.lt_of_lt_of_le (Array.getElem?_eq_some_iff.1 (unhide HRw2)).1 ((unhide HHD).2 k hk).1, by rw [hg7]; exact ((unhide HHD).2 k hk).2⟩⟩
  have HG7 : Hid (w.heap.size < g7) := by rw [hg7]; exact (Array.getElem?_eq_some_iff.1 (unhide HRw3)).1
  rw [ho] at hU
  clear HHE HB3 HHD HBw2 HRw2 HBw3 HRw3 hbU ho o
  go_upto_region 8 with fail
  rw [← hU, ← hg7]
  clear hU hg7
  cases bb with
  | false =>
    have z0 : U.cell? ⟨w.heap.size, 0, none⟩ = some (.int .i64 0) := cell_of_row _ _ _ _ _ _ (unhide HRU)
    have z1 : U.cell? ⟨w.heap.size, 1, none⟩ = some (.slice none 0 0) := cell_of_row _ _ _ _ _ _ (unhide HRU)
    have z2 : U.cell? ⟨w.heap.size, 2, none⟩ = some (.slice none 0 0) := cell_of_row _ _ _ _ _ _ (unhide HRU)
    have f0 := frozen_of_row U w.heap.size 0 _ _ (unhide HRU)
    have f1 := frozen_of_row U w.heap.size 1 _ _ (unhide HRU)
    have f2 := frozen_of_row U w.heap.size 2 _ _ (unhide HRU)
    obtain ⟨X, hX⟩ : ∃ X, X = ((U.setCell ⟨w.heap.size, 0, none⟩ (.int .i64 0)).setCell ⟨w.heap.size, 1, none⟩ (.slice none 0 0)).setCell ⟨w.heap.size, 2, none⟩ (.slice none 0 0) := ⟨_, rfl⟩
    obtain ⟨s1, s2, s3⟩ := set3a U w.heap.size _ _ _ (.int .i64 0) (.slice none 0 0) (.slice none 0 0) _ (unhide HRU)
    rw [← hX] at s1 s2 s3
    have q0 : X.cell? ⟨w.heap.size, 0, none⟩ = some (.int .i64 0) := cell_of_row _ _ _ _ _ _ s1
    have q1 : X.cell? ⟨w.heap.size, 1, none⟩ = some (.slice none 0 0) := cell_of_row _ _ _ _ _ _ s1
    have q2 : X.cell? ⟨w.heap.size, 2, none⟩ = some (.slice none 0 0) := cell_of_row _ _ _ _ _ _ s1
    have HBX : Hid (Below w.heap.size w X) := s3 w _ (unhide HBU) (Nat.le_refl _)
    have HFF : Hid (RdR l 0 [] [] 0 80) := .inr ⟨by decide, rfl, rfl, rfl, rfl, .inr ⟨by rw [unhide HC8], .inl ⟨fun s H n h => (unhide HRS).2 rfl s H n (by rw [unhide HC8] at h; exact h), rfl⟩⟩⟩
    clear s1 s2 s3
    go_wp2_with fail
    rw [← hX]
    refine bodyPost_ret (v := .tuple #[.agg #[.int .i64 0, .slice none 0 0, .slice none 0 0], .int .i64 0, .int .i64 80]) (by simp [results, Tryz.results36, go_sem, q0, q1, q2]) rfl ?_
    exact RdP.mk 0 [] [] 0 80 none 0 none 0 rfl HFF ⟨⟨fun h => absurd rfl h, Nat.zero_le _⟩, ⟨fun h => absurd rfl h, Nat.zero_le _, Nat.zero_le _, fun _ => rfl⟩⟩ HBX

  | true =>
  have HRA : Hid (RA hd s H n) := (unhide HRS).1 rfl
  clear HRS
  by_cases hn3 : 32768 < n
  · have hn3' : (32768 : Int) < (n : Int) := by omega
    have z0 : U.cell? ⟨w.heap.size, 0, none⟩ = some (.int .i64 0) := cell_of_row _ _ _ _ _ _ (unhide HRU)
    have z1 : U.cell? ⟨w.heap.size, 1, none⟩ = some (.slice none 0 0) := cell_of_row _ _ _ _ _ _ (unhide HRU)
    have z2 : U.cell? ⟨w.heap.size, 2, none⟩ = some (.slice none 0 0) := cell_of_row _ _ _ _ _ _ (unhide HRU)
    have f0 := frozen_of_row U w.heap.size 0 _ _ (unhide HRU)
    have f1 := frozen_of_row U w.heap.size 1 _ _ (unhide HRU)
    have f2 := frozen_of_row U w.heap.size 2 _ _ (unhide HRU)
    obtain ⟨X, hX⟩ : ∃ X, X = ((U.setCell ⟨w.heap.size, 0, none⟩ (.int .i64 0)).setCell ⟨w.heap.size, 1, none⟩ (.slice none 0 0)).setCell ⟨w.heap.size, 2, none⟩ (.slice none 0 0) := ⟨_, rfl⟩
    obtain ⟨s1, s2, s3⟩ := set3a U w.heap.size _ _ _ (.int .i64 0) (.slice none 0 0) (.slice none 0 0) _ (unhide HRU)
    rw [← hX] at s1 s2 s3
    have q0 : X.cell? ⟨w.heap.size, 0, none⟩ = some (.int .i64 0) := cell_of_row _ _ _ _ _ _ s1
    have q1 : X.cell? ⟨w.heap.size, 1, none⟩ = some (.slice none 0 0) := cell_of_row _ _ _ _ _ _ s1
    have q2 : X.cell? ⟨w.heap.size, 2, none⟩ = some (.slice none 0 0) := cell_of_row _ _ _ _ _ _ s1
    have HBX : Hid (Below w.heap.size w X) := s3 w _ (unhide HBU) (Nat.le_refl _)
    have HFF : Hid (RdR l 0 [] [] 0 81) := .inr ⟨by decide, rfl, rfl, rfl, rfl, .inr ⟨by rw [unhide HC8], .inr ⟨s, H, n, (by rw [unhide HC8]; exact unhide HRA), .inl ⟨hn3, rfl⟩⟩⟩⟩
    clear s1 s2 s3
    go_wp2_with fail
    rw [← hX]
    refine bodyPost_ret (v := .tuple #[.agg #[.int .i64 0, .slice none 0 0, .slice none 0 0], .int .i64 0, .int .i64 81]) (by simp [results, Tryz.results36, go_sem, q0, q1, q2]) rfl ?_
    exact RdP.mk 0 [] [] 0 81 none 0 none 0 rfl HFF ⟨⟨fun h => absurd rfl h, Nat.zero_le _⟩, ⟨fun h => absurd rfl h, Nat.zero_le _, Nat.zero_le _, fun _ => rfl⟩⟩ HBX

  have hn3' : ¬ (32768 : Int) < (n : Int) := by omega
  by_cases hsh : l.length < q + 4 + n
  · have hsh' : (l.length : Int) - (q : Int) - 4 < (n : Int) := by omega
    have z0 : U.cell? ⟨w.heap.size, 0, none⟩ = some (.int .i64 0) := cell_of_row _ _ _ _ _ _ (unhide HRU)
    have z1 : U.cell? ⟨w.heap.size, 1, none⟩ = some (.slice none 0 0) := cell_of_row _ _ _ _ _ _ (unhide HRU)
    have z2 : U.cell? ⟨w.heap.size, 2, none⟩ = some (.slice none 0 0) := cell_of_row _ _ _ _ _ _ (unhide HRU)
    have f0 := frozen_of_row U w.heap.size 0 _ _ (unhide HRU)
    have f1 := frozen_of_row U w.heap.size 1 _ _ (unhide HRU)
    have f2 := frozen_of_row U w.heap.size 2 _ _ (unhide HRU)
    obtain ⟨X, hX⟩ : ∃ X, X = ((U.setCell ⟨w.heap.size, 0, none⟩ (.int .i64 0)).setCell ⟨w.heap.size, 1, none⟩ (.slice none 0 0)).setCell ⟨w.heap.size, 2, none⟩ (.slice none 0 0) := ⟨_, rfl⟩
    obtain ⟨s1, s2, s3⟩ := set3a U w.heap.size _ _ _ (.int .i64 0) (.slice none 0 0) (.slice none 0 0) _ (unhide HRU)
    rw [← hX] at s1 s2 s3
    have q0 : X.cell? ⟨w.heap.size, 0, none⟩ = some (.int .i64 0) := cell_of_row _ _ _ _ _ _ s1
    have q1 : X.cell? ⟨w.heap.size, 1, none⟩ = some (.slice none 0 0) := cell_of_row _ _ _ _ _ _ s1
    have q2 : X.cell? ⟨w.heap.size, 2, none⟩ = some (.slice none 0 0) := cell_of_row _ _ _ _ _ _ s1
    have HBX : Hid (Below w.heap.size w X) := s3 w _ (unhide HBU) (Nat.le_refl _)
    have HFF : Hid (RdR l 0 [] [] 0 2) := .inr ⟨by decide, rfl, rfl, rfl, rfl, .inr ⟨by rw [unhide HC8], .inr ⟨s, H, n, (by rw [unhide HC8]; exact unhide HRA), .inr ⟨by omega, (by rw [unhide HC8]; show l.length < hd.length + 4 + n; rw [unhide HHL]; exact hsh), rfl⟩⟩⟩⟩
    clear s1 s2 s3
    go_wp2_with fail
    rw [← hX]
    refine bodyPost_ret (v := .tuple #[.agg #[.int .i64 0, .slice none 0 0, .slice none 0 0], .int .i64 0, .int .i64 2]) (by simp [results, Tryz.results36, go_sem, q0, q1, q2]) rfl ?_
    exact RdP.mk 0 [] [] 0 2 none 0 none 0 rfl HFF ⟨⟨fun h => absurd rfl h, Nat.zero_le _⟩, ⟨fun h => absurd rfl h, Nat.zero_le _, Nat.zero_le _, fun _ => rfl⟩⟩ HBX

  have hsh' : ¬ (l.length : Int) - (q : Int) - 4 < (n : Int) := by omega
  have hn4 : n ≤ 32768 := by omega
  have hsh2 : q + 4 + n ≤ l.length := by omega
  have xb : (str l).extract (q + 4) (q + 4 + n) = str ((l.drop (q + 4)).take n) := cut_mid l (q + 4) n
  obtain ⟨B, hB⟩ : ∃ B, B = (l.drop (q + 4)).take n := ⟨_, rfl⟩
  rw [← hB] at xb
  have hBl : B.length = n := by rw [hB]; simp; omega
  have hj1 : (q : Int) + 4 ≤ (l.length : Int) := by omega
  have hj2 : (q : Int) + 4 + (n : Int) ≤ (l.length : Int) := by omega
  have hj0 : (0 : Int) ≤ (q : Int) + 4 := by omega
  have hj3 : (q : Int) + 4 ≤ (q : Int) + 4 + (n : Int) := by omega
  have HFF : Hid (RdR l s H B (q + 4 + n) 0) := .inl ⟨rfl, by rw [unhide HC8], n, by rw [unhide HC8]; exact unhide HRA, hn4, by rw [unhide HC8]; show hd.length + 4 + n ≤ _; rw [unhide HHL]; exact hsh2, by rw [unhide HC8]; show _ = (l.drop (hd.length + 4)).take n; rw [unhide HHL]; exact hB, by rw [unhide HC8]; show _ = hd.length + 4 + n; rw [unhide HHL]⟩
  obtain ⟨Y, cy, hcv, hbY, hsY, hOY⟩ := to_omg B U (by omega)
  have HBY := hide hOY.toBs
  have HRY : Hid (Y.heap[w.heap.size]? = some (.cells #[.int .i64 0, .slice none 0 0, .slice none 0 0] 58 (0, 0))) := (hbY.block _ (Array.getElem?_eq_some_iff.1 (unhide HRU)).1).trans (unhide HRU)
  have HAY : Hid (Y.heap[g7]? = some (.cells #[.int .i64 s, .slice hp H.length hc, .slice none 0 0] 58 (0, 0))) := (hbY.block _ (Array.getElem?_eq_some_iff.1 (unhide HAU)).1).trans (unhide HAU)
  have HHY : Hid (HdR Y hp H) := (unhide HHU).1.below hbY (Nat.le_refl _)
  have HBlY : Hid (Below w.heap.size w Y) := (unhide HBU).trans (hbY.mono (unhide HBU).size)
  obtain ⟨gy, hgy⟩ : ∃ g, g = U.heap.size := ⟨_, rfl⟩
  have HGY : Hid (g7 < gy) := by rw [hgy]; exact (Array.getElem?_eq_some_iff.1 (unhide HAU)).1
  rw [← hgy] at hcv HBY
  have HBL := hide hBl
  -- the answer's cell for the body
  obtain ⟨Z, hZ⟩ : ∃ Z, Z = Y.setCell ⟨g7, 2, none⟩ (.slice (some ⟨gy, 0, none⟩) B.length cy) := ⟨_, rfl⟩
  have y2 : Y.cell? ⟨g7, 2, none⟩ = some (.slice none 0 0) := cell_of_row _ _ _ _ _ _ (unhide HAY)
  have fy2 := frozen_of_row Y g7 2 _ _ (unhide HAY)
  have hZo : ∀ k, k ≠ g7 → Z.heap[k]? = Y.heap[k]? := fun k hk => by rw [hZ]; exact Below.heap_setCell _ ⟨g7, 2, none⟩ _ k hk
  have HAZ : Hid (Z.heap[g7]? = some (.cells #[.int .i64 s, .slice hp H.length hc, .slice (some ⟨gy, 0, none⟩) B.length cy] 58 (0, 0))) := by rw [hZ]; show _ = _; rw [heap_setCell_same _ _ 2 _ _ _ (unhide HAY)]; rfl
  have HRZ : Hid (Z.heap[w.heap.size]? = some (.cells #[.int .i64 0, .slice none 0 0, .slice none 0 0] 58 (0, 0))) := (hZo _ (Nat.ne_of_lt (unhide HG7))).trans (unhide HRY)
  have HHZ : Hid (HdR Z hp H) := (unhide HHY).same (fun k hk _ => hZo k (Nat.ne_of_lt ((unhide HHU).2 k hk).2))
  have HBZ : Hid (Bs Z (some ⟨gy, 0, none⟩) cy B) := (unhide HBY).same8 (fun k hk => by simp [blk] at hk; subst hk; exact hZo _ (Nat.ne_of_gt (unhide HGY)))
  have HBlZ : Hid (Below w.heap.size w Z) := by rw [hZ]; exact below_seta (unhide HBlY) (unhide HBlY).size _ _ (Nat.le_of_lt (unhide HG7))
  have a0 : Z.cell? ⟨g7, 0, none⟩ = some (.int .i64 s) := cell_of_row _ _ _ _ _ _ (unhide HAZ)
  have a1 : Z.cell? ⟨g7, 1, none⟩ = some (.slice hp H.length hc) := cell_of_row _ _ _ _ _ _ (unhide HAZ)
  have a2 : Z.cell? ⟨g7, 2, none⟩ = some (.slice (some ⟨gy, 0, none⟩) B.length cy) := cell_of_row _ _ _ _ _ _ (unhide HAZ)
  have z0 : Z.cell? ⟨w.heap.size, 0, none⟩ = some (.int .i64 0) := cell_of_row _ _ _ _ _ _ (unhide HRZ)
  have z1 : Z.cell? ⟨w.heap.size, 1, none⟩ = some (.slice none 0 0) := cell_of_row _ _ _ _ _ _ (unhide HRZ)
  have z2 : Z.cell? ⟨w.heap.size, 2, none⟩ = some (.slice none 0 0) := cell_of_row _ _ _ _ _ _ (unhide HRZ)
  have f0 := frozen_of_row Z w.heap.size 0 _ _ (unhide HRZ)
  have f1 := frozen_of_row Z w.heap.size 1 _ _ (unhide HRZ)
  have f2 := frozen_of_row Z w.heap.size 2 _ _ (unhide HRZ)
  obtain ⟨X, hX⟩ : ∃ X, X = ((Z.setCell ⟨w.heap.size, 0, none⟩ (.int .i64 s)).setCell ⟨w.heap.size, 1, none⟩ (.slice hp H.length hc)).setCell ⟨w.heap.size, 2, none⟩ (.slice (some ⟨gy, 0, none⟩) B.length cy) := ⟨_, rfl⟩
  obtain ⟨s1, s2, s3⟩ := set3a Z w.heap.size _ _ _ (.int .i64 s) (.slice hp H.length hc) (.slice (some ⟨gy, 0, none⟩) B.length cy) _ (unhide HRZ)
  rw [← hX] at s1 s2 s3
  have q0 : X.cell? ⟨w.heap.size, 0, none⟩ = some (.int .i64 s) := cell_of_row _ _ _ _ _ _ s1
  have q1 : X.cell? ⟨w.heap.size, 1, none⟩ = some (.slice hp H.length hc) := cell_of_row _ _ _ _ _ _ s1
  have q2 : X.cell? ⟨w.heap.size, 2, none⟩ = some (.slice (some ⟨gy, 0, none⟩) B.length cy) := cell_of_row _ _ _ _ _ _ s1
  have HBX : Hid (Below w.heap.size w X) := s3 w _ (unhide HBlZ) (Nat.le_refl _)
  have HHX : Hid (HdR X hp H ∧ Bs X (some ⟨gy, 0, none⟩) cy B) := ⟨(unhide HHZ).same (fun k hk _ => s2 k (Nat.ne_of_gt ((unhide HHU).2 k hk).1)), (unhide HBZ).same8 (fun k hk => by simp [blk] at hk; subst hk; exact s2 _ (by have := unhide HGY; have := unhide HG7; omega))⟩
  clear s1 s2 s3 hZo hbY hsY hOY hB hgy hBl
  go_upto_region 15 with fail
  rw [← hZ]
  clear hZ y2 fy2 hcv xb
  go_wp2_with fail
  rw [← hX]
  refine bodyPost_ret (v := .tuple #[.agg #[.int .i64 s, .slice hp H.length hc, .slice (some ⟨gy, 0, none⟩) B.length cy], .int .i64 ((q + 4 + n : Nat) : Int), .int .i64 0]) (by simp [results, Tryz.results36, go_sem, q0, q1, q2]) rfl ?_
  exact RdP.mk s H B (q + 4 + n) 0 hp hc (some ⟨gy, 0, none⟩) cy rfl HFF HHX HBX
#print axioms rread8
theorem ohM_len : ∀ (L : List (List UInt8)) (acc H : List Hd), ohM L acc = some H → H.length = acc.length + L.length
  | [], acc, H, h => by simp [ohM] at h; subst h; simp
  | l :: L, acc, H, h => by
    unfold ohM at h
    cases hf : ohF l with
    | none => rw [hf] at h; cases h
    | some x =>
      rw [hf] at h
      have := ohM_len L (acc ++ [x]) H h
      simp at this ⊢
      omega
theorem ra_len {hd : List UInt8} {s : Int} {H : List Hd} {n : Nat} (h : RA hd s H n) : H.length ≤ 32 := by
  obtain ⟨l0, rest, _, _, _, e4, e5⟩ := h
  rcases e5 with ⟨_, _, e⟩ | ⟨_, last, _, _, e⟩
  · have := ohM_len _ _ _ e; simp at this; omega
  · have := ohM_len _ _ _ e; simp at this; omega
set_option maxHeartbeats 8000000 in
theorem reads_any (x : Option Addr) (cx : Nat) (l : List UInt8) (w : World) (hE : EnvH w) (hP : P10 w) (hR : Rx w) (hb : Bs w x cx l) :
    Calls Tryz.prog 6 #[.slice x l.length cx] w fun e w' => e = .returned (.bool true) ∧ Hid (Below w.heap.size w w') := by
  have HE := hide hE
  have HP := hide hP
  have HRX := hide hR
  have HBB := hide hb
  have hll := Nat.le_trans hb.le hb.most
  unfold maxLen at hll
  clear hE hP hR hb
  by_cases hbig : 262144 < l.length
  · have hbg : (262144 : Int) < (l.length : Int) := by omega
    have HA := hide (awake8_any w (unhide HE))
    go_enter Tryz.func6, Tryz.ntmps6
    go_wp2_with fail
    refine (unhide HA).mono ?_
    rintro e V2 ⟨rfl, HB2⟩
    go_wp2_with fail
    go_ret
    exact ⟨rfl, HB2⟩
  have hbg : ¬ (262144 : Int) < (l.length : Int) := by omega
  have hl6 : l.length ≤ 262144 := by omega
  have HCL := hide (sclone_any x l.length cx l w (unhide HBB) rfl (by omega))
  clear hbig hll
  go_enter Tryz.func6, Tryz.ntmps6
  go_wp2_with fail
  refine (unhide HCL).mono ?_
  rintro e w1 ⟨a1, c1, r1, rfl, hr1, ho1, hb1⟩
  obtain rfl : r1 = l := unhide hr1
  have HO1 := hide ho1.toBs
  have HB1 := hide hb1
  clear HCL hr1 ho1 hb1
  have HRD := hide (read8 a1 c1 r1 w1 ((unhide HE).below (unhide HB1)) ((unhide HRX).below (unhide HB1)) ((unhide HP).below (unhide HB1)) (unhide HO1) (by omega))
  go_wp2_with fail
  refine (unhide HRD).mono ?_
  rintro e w2 hrd
  obtain ⟨s, H, B, n, E, hp, hc, bp, bc, rfl, HR2, HD2, HB2'⟩ := hrd
  have HB2 : Hid (Below w.heap.size w w2) := (unhide HB1).trans ((unhide HB2').mono (unhide HB1).size)
  have HO2 := hide ((unhide HO1).below (unhide HB2') (Nat.le_refl _))
  clear HRD HB2' HO1 HB1
  obtain ⟨o, ho⟩ : ∃ o, o = Obj.cells #[.int .i64 s, .slice hp H.length hc, .slice bp B.length bc] 58 := ⟨_, rfl⟩
  obtain ⟨U, hU⟩ : ∃ U, U = w2.alloc o := ⟨_, rfl⟩
  have hbU : Below w2.heap.size w2 U := by rw [hU]; exact (Below.refl _ _).alloc (Nat.le_refl _) _
  have HBU : Hid (Below w.heap.size w U) := (unhide HB2).trans (hbU.mono (unhide HB2).size)
  obtain ⟨g4, hg4⟩ : ∃ g, g = w2.heap.size := ⟨_, rfl⟩
  have HAU : Hid (U.heap[g4]? = some (.cells #[.int .i64 s, .slice hp H.length hc, .slice bp B.length bc] 58 (0, 0))) := by rw [hg4, hU, ho]; exact heap_alloc_new w2 _
  have HDU : Hid (HdR U hp H ∧ Bs U bp bc B) := ⟨(unhide HD2).1.below hbU (Nat.le_refl _), (unhide HD2).2.below hbU (Nat.le_refl _)⟩
  have HOU := hide ((unhide HO2).below hbU (Nat.le_refl _))
  rw [ho] at hU
  have HRR := hide (rread8 x cx r1 U ((unhide HBB).below (unhide HBU) (Nat.le_refl _)) (by omega))
  clear hbU ho o HB2 HD2 HO2
  go_upto_region 5 with fail
  rw [← hU, ← hg4]
  clear hU hg4
  go_wp2_with fail
  refine (unhide HRR).mono ?_
  rintro e w3 hrd
  obtain ⟨s', H', B', n', E', hp', hc', bp', bc', rfl, HR3, HD3, HB3'⟩ := hrd
  obtain ⟨rfl, rfl, rfl, rfl, rfl⟩ := rd_one (unhide HR2) (unhide HR3)
  have HB3 : Hid (Below w.heap.size w w3) := (unhide HBU).trans ((unhide HB3').mono (unhide HBU).size)
  obtain ⟨o, ho⟩ : ∃ o, o = Obj.cells #[.int .i64 s, .slice hp' H.length hc', .slice bp' B.length bc'] 58 := ⟨_, rfl⟩
  obtain ⟨Z, hZ⟩ : ∃ Z, Z = w3.alloc o := ⟨_, rfl⟩
  have hbZ : Below w3.heap.size w3 Z := by rw [hZ]; exact (Below.refl _ _).alloc (Nat.le_refl _) _
  have hUZ : Below U.heap.size U Z := (unhide HB3').trans (hbZ.mono (unhide HB3').size)
  have HBZ : Hid (Below w.heap.size w Z) := (unhide HB3).trans (hbZ.mono (unhide HB3).size)
  obtain ⟨g7, hg7⟩ : ∃ g, g = w3.heap.size := ⟨_, rfl⟩
  have hA7 : Z.heap[g7]? = some (.cells #[.int .i64 s, .slice hp' H.length hc', .slice bp' B.length bc'] 58 (0, 0)) := by rw [hg7, hZ, ho]; exact heap_alloc_new w3 _
  have hA4 := (hUZ.block _ (Array.getElem?_eq_some_iff.1 (unhide HAU)).1).trans (unhide HAU)
  have HHl : Hid (H.length ≤ 1000000) := by
    have := unhide HR2
    show _ ≤ _
    rcases this with ⟨_, _, n, r1, _⟩ | ⟨_, _, h, _⟩
    · exact Nat.le_trans (ra_len r1) (by decide)
    · rw [h]; simp
  have HSM := hide (samA_eq s H B hp hp' bp bp' hc hc' bc bc' Z ((unhide HDU).1.below hUZ (Nat.le_refl _)) ((unhide HD3).1.below hbZ (Nat.le_refl _)) ((unhide HDU).2.below hUZ (Nat.le_refl _)) ((unhide HD3).2.below hbZ (Nat.le_refl _)) (unhide HHl))
  have HOZ := hide ((unhide HOU).below hUZ (Nat.le_refl _))
  have q0 : Z.cell? ⟨g4, 0, none⟩ = some (.int .i64 s) := cell_of_row _ _ _ _ _ _ hA4
  have q1 : Z.cell? ⟨g4, 1, none⟩ = some (.slice hp H.length hc) := cell_of_row _ _ _ _ _ _ hA4
  have q2 : Z.cell? ⟨g4, 2, none⟩ = some (.slice bp B.length bc) := cell_of_row _ _ _ _ _ _ hA4
  have p0 : Z.cell? ⟨g7, 0, none⟩ = some (.int .i64 s) := cell_of_row _ _ _ _ _ _ hA7
  have p1 : Z.cell? ⟨g7, 1, none⟩ = some (.slice hp' H.length hc') := cell_of_row _ _ _ _ _ _ hA7
  have p2 : Z.cell? ⟨g7, 2, none⟩ = some (.slice bp' B.length bc') := cell_of_row _ _ _ _ _ _ hA7
  rw [ho] at hZ
  have n1 : ((n : Int) == (n : Int)) = true := by simp
  have n2 : ((E : Int) == (E : Int)) = true := by simp
  clear hbZ hUZ ho o HRR HR2 HR3 HD3 HB3' HB3 HDU HOU HAU hA4 hA7 HBU HHl
  go_upto_region 6 with fail
  rw [← hZ, ← hg7]
  clear hZ hg7
  go_wp2_with fail
  refine (unhide HSM).mono ?_
  rintro e w5 ⟨rfl, HB5'⟩
  have HB5 : Hid (Below w.heap.size w w5) := (unhide HBZ).trans ((unhide HB5').mono (unhide HBZ).size)
  have HEQ : Hid (Calls Tryz.prog 18 #[.slice a1 r1.length c1, .slice x r1.length cx] w5 fun e w' => e = .returned (.bool true) ∧ Hid (Below w5.heap.size w5 w')) := eq8_same a1 c1 x cx r1 w5 ((unhide HOZ).below (unhide HB5') (Nat.le_refl _)) ((unhide HBB).below (unhide HB5) (Nat.le_refl _)) (by omega)
  clear HSM q0 q1 q2 p0 p1 p2 HBZ HOZ HB5'
  go_wp2_with fail
  refine (unhide HEQ).mono ?_
  rintro e w6 ⟨rfl, HB6'⟩
  have HB6 : Hid (Below w.heap.size w w6) := (unhide HB5).trans ((unhide HB6').mono (unhide HB5).size)
  clear HEQ HB6' HB5
  go_wp2_with fail
  refine (awake8_any _ ((unhide HE).below (unhide HB6))).mono ?_
  rintro e w7 ⟨rfl, HB7⟩
  go_wp2_with fail
  go_ret
  exact ⟨rfl, hide ((unhide HB6).trans ((unhide HB7).mono (unhide HB6).size))⟩
#print axioms reads_any
theorem httpdReads_walk (x : Option Addr) (cx : Nat) (l : List UInt8) (w : World) (hb : Bs w x cx l) (hE : EnvH w ∧ P10 w ∧ Rx w) :
    Calls Tryz.prog 6 #[.slice x l.length cx] w fun e w' => e = .returned (.bool true) ∧ Below w.heap.size w w' :=
  (reads_any x cx l w hE.1 hE.2.1 hE.2.2 hb).mono fun e w' h => ⟨h.1, unhide h.2⟩
end Go.Proofs.YtonaekkenggmbaaGreatDoor
end
