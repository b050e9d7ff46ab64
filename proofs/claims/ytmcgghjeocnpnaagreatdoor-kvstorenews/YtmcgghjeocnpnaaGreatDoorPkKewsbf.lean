/-
  kvstore: a store; Open of a new disk.
-/
import Derived.Test.YtmcgghjeocnpnaaGreatDoorPkKewsaz
import Derived.Test.YtmcgghjeocnpnaaGreatDoorPkKewsba
import Derived.Test.YtmcgghjeocnpnaaGreatDoorPkKewsbd
section
set_option linter.unusedVariables false
set_option maxRecDepth 1000000
namespace Go.Proofs.YtmcgghjeocnpnaaGreatDoor
open Go.RowKit Go.Maps

/-- A store: its log, its items, its version, what is synced. -/
structure KS (w0 w : World) (g : Nat → Tg) (Q B D m : Nat) (lk : Int) (M : Md) (N : Nat) (S : List Sg) (f : Its) (cnt v y : Nat) : Prop where
  row : w.heap[Q]? = some (.cells #[.pointer (some ⟨B, 0, none⟩), .int .i32 lk, .int .u32 0, .map (some m), .int .i64 (v : Int), .int .i64 (y : Int)] 71 (0, 0))
  lg : ∃ P pc l, LgS w g B D P pc l S
  dk : DK w g 0 D M N
  im : IM w m f cnt
  gQ : g Q = .d 3
  gm : g m = .l 3
  lw : LW w0 w g
def KS0 (w0 w : World) (Q : Nat) (z : Int) : Prop := ∃ g B D m, KS w0 w g Q B D m 0 (Md.new z) 302 [] (fun _ => none) 0 0 0
set_option maxHeartbeats 1000000 in
theorem open6 (w0 : World) (g : Nat → Tg) (D : Nat) (z : Int) (w : World) (hE : EnvS w0) (hL : LW w0 w g) (hd : DK w g 0 D (Md.new z) 0) :
    Calls Tryz.prog 18 #[.pointer (some ⟨D, 0, none⟩)] w fun e w' => ∃ Q, e = .returned (.tuple #[.pointer (some ⟨Q, 0, none⟩), .int .i64 0]) ∧ Hid (KS0 w0 w' Q z) := by
  have HO := hide (open_new w0 g D z 0 w hE hL hd (by omega))
  have HL := hide hL
  clear hE hL hd
  go_enter Tryz.func18, Tryz.ntmps18
  go_wp2_with fail
  refine (unhide HO).mono ?_
  rintro e w1 ⟨B, rfl, HR⟩
  obtain ⟨g1, P, pc, l, hl1, hd1, hs1⟩ := unhide HR
  have HF := hide (first5 g1 B D P pc l [] w1 hl1 sok_nil)
  have HL1 := hide hl1
  have HD1 := hide hd1
  have HLW : Hid (LW w0 w1 g1) := (unhide HL).st2 hs1 x01o
  clear HO HR hl1 hd1 hs1 HL
  go_wp2_with fail
  refine (unhide HF).mono ?_
  rintro e w2 ⟨rfl, HB2⟩
  have e0 : ((fsS [] : Nat) : Int) = 1 := rfl
  rw [e0]
  have hl2 := (unhide HL1).below (unhide HB2)
  have HF2 := hide (first5 g1 B D P pc l [] w2 hl2 sok_nil)
  have HL2 := hide hl2
  clear hl2 HF
  go_wp2_with fail
  refine (unhide HF2).mono ?_
  rintro e w3 ⟨rfl, HB3⟩
  rw [e0]
  have hl3 := (unhide HL2).below (unhide HB3)
  have HRD := hide (read5 g1 B D P pc l [] 1 w3 hl3 sok_nil (by omega) (by omega))
  have HL3 := hide hl3
  clear hl3 HF2
  go_wp2_with fail
  refine (unhide HRD).mono ?_
  rintro e w4 ⟨a, c, vs, rfl, _, HP, HB4⟩
  have hv : vs.length = 0 := (unhide HP).len
  rw [hv]
  have HL4 := hide ((unhide HL3).below (unhide HB4))
  have HRC := hide (recall0 a c w4)
  clear hv HP HRD
  go_wp2_with fail
  refine (unhide HRC).mono ?_
  rintro e w5 ⟨m, rfl, HS⟩
  clear HRC
  go_wp2_with fail
  obtain ⟨W6, h6⟩ : ∃ W6, W6 = (w5.alloc (.cells #[.map (some m), .int .i64 0] 69)).alloc (.cells #[.pointer (some ⟨B, 0, none⟩), .int .i32 0, .int .u32 0, .map (some m), .int .i64 0, .int .i64 0] 71) := ⟨_, rfl⟩
  rw [← h6]
  have HFin : Hid (KS0 w0 W6 (w5.heap.size + 1) z) := by
    have hs := unhide HS
    have b6 : Below w5.heap.size w5 W6 := by rw [h6]; exact ((Below.refl _ _).alloc (Nat.le_refl _) _).alloc (by simp) _
    have hrow : W6.heap[w5.heap.size + 1]? = some (.cells #[.pointer (some ⟨B, 0, none⟩), .int .i32 0, .int .u32 0, .map (some m), .int .i64 0, .int .i64 0] 71 (0, 0)) := by
      have hz : (w5.alloc (.cells #[.map (some m), .int .i64 0] 69)).heap.size = w5.heap.size + 1 := by simp
      rw [h6, ← hz]
      exact heap_alloc_new _ _
    have b12 := unhide HB2
    have b23 := (unhide HB3).mono b12.size
    have b34 := (unhide HB4).mono (Nat.le_trans b12.size (unhide HB3).size)
    have z4 : w1.heap.size ≤ w4.heap.size := Nat.le_trans (Nat.le_trans b12.size (unhide HB3).size) (unhide HB4).size
    have b45 := hs.bel.mono z4
    have z5 : w1.heap.size ≤ w5.heap.size := Nat.le_trans z4 hs.bel.size
    have b16 : Below w1.heap.size w1 W6 := (((b12.trans b23).trans b34).trans b45).trans (b6.mono z5)
    obtain ⟨g2, hg2⟩ : ∃ g2 : Nat → Tg, g2 = fun k => if k < w1.heap.size then g1 k else if k = m then .l 3 else .d 3 := ⟨_, rfl⟩
    have st : St w1 W6 g1 g2 (fun _ => False) := (St.ofBelow g1 _ b16).tag (fun k hk => by rw [hg2]; exact if_pos hk)
    have hmlt : m < w5.heap.size := hs.im.lt
    refine ⟨g2, B, D, m, hrow, ⟨P, pc, l, (unhide HL1).keep st (fun _ _ e => e)⟩, ((unhide HD1).st (st.mono (fun t e => e.elim)) (k := 7) (by omega)).monoN (by omega), hs.im.same (b6.block m hmlt), ?_, ?_, (unhide HLW).st2 st (fun e => e)⟩
    · rw [hg2]
      simp only
      rw [if_neg (by omega), if_neg (by omega)]
    · rw [hg2]
      simp only
      rw [if_neg (by have := hs.ge; omega)]
      simp
  clear h6
  go_ret2
  exact ⟨w5.heap.size + 1, rfl, HFin⟩
#print axioms open6
theorem openN6 (p : Option Addr) (w : World) (h : NoDisk w p) : Calls Tryz.prog 18 #[.pointer p] w fun e w' => e = .returned (.tuple #[.pointer none, .int .i64 8]) ∧ Hid (Below w.heap.size w w') := by
  have HO := hide (nopen5 p w h)
  clear h
  go_enter Tryz.func18, Tryz.ntmps18
  go_wp2_with fail
  refine (unhide HO).mono ?_
  rintro e w1 ⟨rfl, HB⟩
  clear HO
  go_wp2_with fail
  go_ret2
  exact ⟨rfl, HB⟩
#print axioms openN6
end Go.Proofs.YtmcgghjeocnpnaaGreatDoor
end
