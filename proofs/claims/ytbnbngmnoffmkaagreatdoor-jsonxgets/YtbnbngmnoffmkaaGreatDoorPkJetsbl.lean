/-
  jsonx: the document's own may, of every kind but an object (by genJtB.py).; jsonx: the document's own may, of an object.; jsonx: the document's own may, of any value.
-/
import Derived.Test.YtbnbngmnoffmkaaGreatDoorPkJetsbk
import Derived.Test.YtbnbngmnoffmkaaGreatDoorPkJetsax
section
set_option linter.unusedVariables false
set_option maxRecDepth 1000000
namespace Go.Proofs.YtbnbngmnoffmkaaGreatDoor
open Go.RowKit

set_option maxHeartbeats 8000000 in
theorem rmay0 (n : Int) (t : List UInt8) (a1 a2 : Option Addr) (m1 c1 m2 c2 : Nat) (X : Bool) (w : World) (HC : Hid (Calls Tryz.prog 89 #[.string (str t)] (w.alloc (.cells #[.int .i64 0, .int .i64 n, .string (str t), .slice a1 m1 c1, .slice a2 m2 c2] 25)) fun e w' => e = .returned (.bool X) ∧ Hid (Below (w.alloc (.cells #[.int .i64 0, .int .i64 n, .string (str t), .slice a1 m1 c1, .slice a2 m2 c2] 25)).heap.size (w.alloc (.cells #[.int .i64 0, .int .i64 n, .string (str t), .slice a1 m1 c1, .slice a2 m2 c2] 25)) w'))) :
    Calls Tryz.prog 61 #[.agg #[.int .i64 0, .int .i64 n, .string (str t), .slice a1 m1 c1, .slice a2 m2 c2]] w fun e w' => e = .returned (.bool ((n == 0) && decide (t = []) && X && decide (m2 = 0) && decide (m1 = 0))) ∧ Hid (Below w.heap.size w w') := by
  obtain ⟨RES, hRES⟩ : ∃ RES : Bool, RES = ((n == 0) && decide (t = []) && X && decide (m2 = 0) && decide (m1 = 0)) := ⟨_, rfl⟩
  rw [← hRES]
  have HR := hide hRES
  clear hRES
  by_cases xN : n = 0
  · subst xN
    by_cases xT : t = []
    · have ht1 : (str t).toList.isEmpty = true := by rw [toList_str]; rw [xT]; rfl
      have ht2 : ((str t).toList == []) = true := by rw [toList_str]; rw [xT]; rfl
      have ht3 : ((str t).toList != []) = false := by rw [toList_str]; rw [xT]; rfl
      cases X with
      | false =>
        have HE : Hid (RES = false) := by show _ = _; rw [unhide HR]; simp_all
        rw [unhide HE]
        clear HE HR
        try clear xT
        obtain ⟨V, hV⟩ : ∃ V, V = w.heap.size := ⟨_, rfl⟩
        obtain ⟨W, hW⟩ : ∃ W, W = w.alloc (.cells #[.int .i64 0, .int .i64 0, .string (str t), .slice a1 m1 c1, .slice a2 m2 c2] 25) := ⟨_, rfl⟩
        have bW : Below w.heap.size w W := by rw [hW]; exact (Below.refl _ _).alloc (Nat.le_refl _) _
        have rW : W.heap[V]? = some (.cells #[.int .i64 0, .int .i64 0, .string (str t), .slice a1 m1 c1, .slice a2 m2 c2] 25 (0, 0)) := by rw [hW, hV]; exact heap_alloc_new _ _
        have HBW := hide bW
        have HRW := hide rW
        rw [← hW] at HC
        obtain ⟨p0, p1, p2, p3, p4⟩ := cells5 rW
        clear bW rW
        go_enter Tryz.func61, Tryz.ntmps61
        go_upto_region 1 with fail
        rw [← hW, ← hV]
        clear hW hV
        go_wp2_with fail
        refine (unhide HC).mono ?_
        rintro e w1 ⟨rfl, h1⟩
        have HF : Hid (Below w.heap.size w w1) := (unhide HBW).trans ((unhide h1).mono (unhide HBW).size)
        have r1 := ((unhide h1).block V (Array.getElem?_eq_some_iff.1 (unhide HRW)).1).trans (unhide HRW)
        clear p0 p1 p2 p3 p4 HC
        obtain ⟨p0, p1, p2, p3, p4⟩ := cells5 r1
        clear r1 h1
        go_wp2_with fail
        go_ret
        exact ⟨rfl, HF⟩
      | true =>
        by_cases xm2 : m2 = 0
        · subst xm2
          by_cases xm1 : m1 = 0
          · subst xm1
            have HE : Hid (RES = true) := by show _ = _; rw [unhide HR]; simp_all
            rw [unhide HE]
            clear HE HR
            try clear xT
            obtain ⟨V, hV⟩ : ∃ V, V = w.heap.size := ⟨_, rfl⟩
            obtain ⟨W, hW⟩ : ∃ W, W = w.alloc (.cells #[.int .i64 0, .int .i64 0, .string (str t), .slice a1 0 c1, .slice a2 0 c2] 25) := ⟨_, rfl⟩
            have bW : Below w.heap.size w W := by rw [hW]; exact (Below.refl _ _).alloc (Nat.le_refl _) _
            have rW : W.heap[V]? = some (.cells #[.int .i64 0, .int .i64 0, .string (str t), .slice a1 0 c1, .slice a2 0 c2] 25 (0, 0)) := by rw [hW, hV]; exact heap_alloc_new _ _
            have HBW := hide bW
            have HRW := hide rW
            rw [← hW] at HC
            obtain ⟨p0, p1, p2, p3, p4⟩ := cells5 rW
            clear bW rW
            go_enter Tryz.func61, Tryz.ntmps61
            go_upto_region 1 with fail
            rw [← hW, ← hV]
            clear hW hV
            go_wp2_with fail
            refine (unhide HC).mono ?_
            rintro e w1 ⟨rfl, h1⟩
            have HF : Hid (Below w.heap.size w w1) := (unhide HBW).trans ((unhide h1).mono (unhide HBW).size)
            have r1 := ((unhide h1).block V (Array.getElem?_eq_some_iff.1 (unhide HRW)).1).trans (unhide HRW)
            clear p0 p1 p2 p3 p4 HC
            obtain ⟨p0, p1, p2, p3, p4⟩ := cells5 r1
            clear r1 h1
            go_wp2_with fail
            go_ret
            exact ⟨rfl, HF⟩
          · have hm1 : ((m1 : Int) == 0) = false := by simp; omega
            have gm1 : (0 : Int) < (m1 : Int) := by omega
            have HE : Hid (RES = false) := by show _ = _; rw [unhide HR]; simp_all
            rw [unhide HE]
            clear HE HR
            try clear xT
            obtain ⟨V, hV⟩ : ∃ V, V = w.heap.size := ⟨_, rfl⟩
            obtain ⟨W, hW⟩ : ∃ W, W = w.alloc (.cells #[.int .i64 0, .int .i64 0, .string (str t), .slice a1 m1 c1, .slice a2 0 c2] 25) := ⟨_, rfl⟩
            have bW : Below w.heap.size w W := by rw [hW]; exact (Below.refl _ _).alloc (Nat.le_refl _) _
            have rW : W.heap[V]? = some (.cells #[.int .i64 0, .int .i64 0, .string (str t), .slice a1 m1 c1, .slice a2 0 c2] 25 (0, 0)) := by rw [hW, hV]; exact heap_alloc_new _ _
            have HBW := hide bW
            have HRW := hide rW
            rw [← hW] at HC
            obtain ⟨p0, p1, p2, p3, p4⟩ := cells5 rW
            clear bW rW
            go_enter Tryz.func61, Tryz.ntmps61
            go_upto_region 1 with fail
            rw [← hW, ← hV]
            clear hW hV
            go_wp2_with fail
            refine (unhide HC).mono ?_
            rintro e w1 ⟨rfl, h1⟩
            have HF : Hid (Below w.heap.size w w1) := (unhide HBW).trans ((unhide h1).mono (unhide HBW).size)
            have r1 := ((unhide h1).block V (Array.getElem?_eq_some_iff.1 (unhide HRW)).1).trans (unhide HRW)
            clear p0 p1 p2 p3 p4 HC
            obtain ⟨p0, p1, p2, p3, p4⟩ := cells5 r1
            clear r1 h1
            go_wp2_with fail
            go_ret
            exact ⟨rfl, HF⟩
        · have hm2 : ((m2 : Int) == 0) = false := by simp; omega
          have gm2 : (0 : Int) < (m2 : Int) := by omega
          have HE : Hid (RES = false) := by show _ = _; rw [unhide HR]; simp_all
          rw [unhide HE]
          clear HE HR
          try clear xT
          obtain ⟨V, hV⟩ : ∃ V, V = w.heap.size := ⟨_, rfl⟩
          obtain ⟨W, hW⟩ : ∃ W, W = w.alloc (.cells #[.int .i64 0, .int .i64 0, .string (str t), .slice a1 m1 c1, .slice a2 m2 c2] 25) := ⟨_, rfl⟩
          have bW : Below w.heap.size w W := by rw [hW]; exact (Below.refl _ _).alloc (Nat.le_refl _) _
          have rW : W.heap[V]? = some (.cells #[.int .i64 0, .int .i64 0, .string (str t), .slice a1 m1 c1, .slice a2 m2 c2] 25 (0, 0)) := by rw [hW, hV]; exact heap_alloc_new _ _
          have HBW := hide bW
          have HRW := hide rW
          rw [← hW] at HC
          obtain ⟨p0, p1, p2, p3, p4⟩ := cells5 rW
          clear bW rW
          go_enter Tryz.func61, Tryz.ntmps61
          go_upto_region 1 with fail
          rw [← hW, ← hV]
          clear hW hV
          go_wp2_with fail
          refine (unhide HC).mono ?_
          rintro e w1 ⟨rfl, h1⟩
          have HF : Hid (Below w.heap.size w w1) := (unhide HBW).trans ((unhide h1).mono (unhide HBW).size)
          have r1 := ((unhide h1).block V (Array.getElem?_eq_some_iff.1 (unhide HRW)).1).trans (unhide HRW)
          clear p0 p1 p2 p3 p4 HC
          obtain ⟨p0, p1, p2, p3, p4⟩ := cells5 r1
          clear r1 h1
          go_wp2_with fail
          go_ret
          exact ⟨rfl, HF⟩
    · have ht1 : (str t).toList.isEmpty = false := by rw [toList_str]; simpa [btE] using xT
      have ht2 : ((str t).toList == []) = false := by rw [toList_str]; simpa using xT
      have ht3 : ((str t).toList != []) = true := by rw [toList_str]; simpa using xT
      have HE : Hid (RES = false) := by show _ = _; rw [unhide HR]; simp_all
      rw [unhide HE]
      clear HE HR
      try clear xT
      have HB : ∀ o, Hid (Below w.heap.size w (w.alloc o)) := fun o => hide ((Below.refl _ _).alloc (Nat.le_refl _) o)
      clear HC
      go_enter Tryz.func61, Tryz.ntmps61
      go_wp2_with fail
      go_ret
      exact ⟨rfl, HB _⟩
  · have yN : (n != 0) = true := by simpa using xN
    have HE : Hid (RES = false) := by show _ = _; rw [unhide HR]; simp_all
    rw [unhide HE]
    clear HE HR
    try clear xT
    have HB : ∀ o, Hid (Below w.heap.size w (w.alloc o)) := fun o => hide ((Below.refl _ _).alloc (Nat.le_refl _) o)
    clear HC
    go_enter Tryz.func61, Tryz.ntmps61
    go_wp2_with fail
    go_ret
    exact ⟨rfl, HB _⟩
#print axioms rmay0
set_option maxHeartbeats 8000000 in
theorem rmay1 (n : Int) (t : List UInt8) (a1 a2 : Option Addr) (m1 c1 m2 c2 : Nat) (X : Bool) (w : World) (HC : Hid (Calls Tryz.prog 89 #[.string (str t)] (w.alloc (.cells #[.int .i64 1, .int .i64 n, .string (str t), .slice a1 m1 c1, .slice a2 m2 c2] 25)) fun e w' => e = .returned (.bool X) ∧ Hid (Below (w.alloc (.cells #[.int .i64 1, .int .i64 n, .string (str t), .slice a1 m1 c1, .slice a2 m2 c2] 25)).heap.size (w.alloc (.cells #[.int .i64 1, .int .i64 n, .string (str t), .slice a1 m1 c1, .slice a2 m2 c2] 25)) w'))) :
    Calls Tryz.prog 61 #[.agg #[.int .i64 1, .int .i64 n, .string (str t), .slice a1 m1 c1, .slice a2 m2 c2]] w fun e w' => e = .returned (.bool (decide (t = []) && (n == 0 || n == 1) && X && decide (m2 = 0) && decide (m1 = 0))) ∧ Hid (Below w.heap.size w w') := by
  obtain ⟨RES, hRES⟩ : ∃ RES : Bool, RES = (decide (t = []) && (n == 0 || n == 1) && X && decide (m2 = 0) && decide (m1 = 0)) := ⟨_, rfl⟩
  rw [← hRES]
  have HR := hide hRES
  clear hRES
  by_cases xT : t = []
  · have ht1 : (str t).toList.isEmpty = true := by rw [toList_str]; rw [xT]; rfl
    have ht2 : ((str t).toList == []) = true := by rw [toList_str]; rw [xT]; rfl
    have ht3 : ((str t).toList != []) = false := by rw [toList_str]; rw [xT]; rfl
    by_cases xN : n = 0
    · subst xN
      cases X with
      | false =>
        have HE : Hid (RES = false) := by show _ = _; rw [unhide HR]; simp_all
        rw [unhide HE]
        clear HE HR
        try clear xT
        obtain ⟨V, hV⟩ : ∃ V, V = w.heap.size := ⟨_, rfl⟩
        obtain ⟨W, hW⟩ : ∃ W, W = w.alloc (.cells #[.int .i64 1, .int .i64 0, .string (str t), .slice a1 m1 c1, .slice a2 m2 c2] 25) := ⟨_, rfl⟩
        have bW : Below w.heap.size w W := by rw [hW]; exact (Below.refl _ _).alloc (Nat.le_refl _) _
        have rW : W.heap[V]? = some (.cells #[.int .i64 1, .int .i64 0, .string (str t), .slice a1 m1 c1, .slice a2 m2 c2] 25 (0, 0)) := by rw [hW, hV]; exact heap_alloc_new _ _
        have HBW := hide bW
        have HRW := hide rW
        rw [← hW] at HC
        obtain ⟨p0, p1, p2, p3, p4⟩ := cells5 rW
        clear bW rW
        go_enter Tryz.func61, Tryz.ntmps61
        go_upto_region 1 with fail
        rw [← hW, ← hV]
        clear hW hV
        go_wp2_with fail
        refine (unhide HC).mono ?_
        rintro e w1 ⟨rfl, h1⟩
        have HF : Hid (Below w.heap.size w w1) := (unhide HBW).trans ((unhide h1).mono (unhide HBW).size)
        have r1 := ((unhide h1).block V (Array.getElem?_eq_some_iff.1 (unhide HRW)).1).trans (unhide HRW)
        clear p0 p1 p2 p3 p4 HC
        obtain ⟨p0, p1, p2, p3, p4⟩ := cells5 r1
        clear r1 h1
        go_wp2_with fail
        go_ret
        exact ⟨rfl, HF⟩
      | true =>
        by_cases xm2 : m2 = 0
        · subst xm2
          by_cases xm1 : m1 = 0
          · subst xm1
            have HE : Hid (RES = true) := by show _ = _; rw [unhide HR]; simp_all
            rw [unhide HE]
            clear HE HR
            try clear xT
            obtain ⟨V, hV⟩ : ∃ V, V = w.heap.size := ⟨_, rfl⟩
            obtain ⟨W, hW⟩ : ∃ W, W = w.alloc (.cells #[.int .i64 1, .int .i64 0, .string (str t), .slice a1 0 c1, .slice a2 0 c2] 25) := ⟨_, rfl⟩
            have bW : Below w.heap.size w W := by rw [hW]; exact (Below.refl _ _).alloc (Nat.le_refl _) _
            have rW : W.heap[V]? = some (.cells #[.int .i64 1, .int .i64 0, .string (str t), .slice a1 0 c1, .slice a2 0 c2] 25 (0, 0)) := by rw [hW, hV]; exact heap_alloc_new _ _
            have HBW := hide bW
            have HRW := hide rW
            rw [← hW] at HC
            obtain ⟨p0, p1, p2, p3, p4⟩ := cells5 rW
            clear bW rW
            go_enter Tryz.func61, Tryz.ntmps61
            go_upto_region 1 with fail
            rw [← hW, ← hV]
            clear hW hV
            go_wp2_with fail
            refine (unhide HC).mono ?_
            rintro e w1 ⟨rfl, h1⟩
            have HF : Hid (Below w.heap.size w w1) := (unhide HBW).trans ((unhide h1).mono (unhide HBW).size)
            have r1 := ((unhide h1).block V (Array.getElem?_eq_some_iff.1 (unhide HRW)).1).trans (unhide HRW)
            clear p0 p1 p2 p3 p4 HC
            obtain ⟨p0, p1, p2, p3, p4⟩ := cells5 r1
            clear r1 h1
            go_wp2_with fail
            go_ret
            exact ⟨rfl, HF⟩
          · have hm1 : ((m1 : Int) == 0) = false := by simp; omega
            have gm1 : (0 : Int) < (m1 : Int) := by omega
            have HE : Hid (RES = false) := by show _ = _; rw [unhide HR]; simp_all
            rw [unhide HE]
            clear HE HR
            try clear xT
            obtain ⟨V, hV⟩ : ∃ V, V = w.heap.size := ⟨_, rfl⟩
            obtain ⟨W, hW⟩ : ∃ W, W = w.alloc (.cells #[.int .i64 1, .int .i64 0, .string (str t), .slice a1 m1 c1, .slice a2 0 c2] 25) := ⟨_, rfl⟩
            have bW : Below w.heap.size w W := by rw [hW]; exact (Below.refl _ _).alloc (Nat.le_refl _) _
            have rW : W.heap[V]? = some (.cells #[.int .i64 1, .int .i64 0, .string (str t), .slice a1 m1 c1, .slice a2 0 c2] 25 (0, 0)) := by rw [hW, hV]; exact heap_alloc_new _ _
            have HBW := hide bW
            have HRW := hide rW
            rw [← hW] at HC
            obtain ⟨p0, p1, p2, p3, p4⟩ := cells5 rW
            clear bW rW
            go_enter Tryz.func61, Tryz.ntmps61
            go_upto_region 1 with fail
            rw [← hW, ← hV]
            clear hW hV
            go_wp2_with fail
            refine (unhide HC).mono ?_
            rintro e w1 ⟨rfl, h1⟩
            have HF : Hid (Below w.heap.size w w1) := (unhide HBW).trans ((unhide h1).mono (unhide HBW).size)
            have r1 := ((unhide h1).block V (Array.getElem?_eq_some_iff.1 (unhide HRW)).1).trans (unhide HRW)
            clear p0 p1 p2 p3 p4 HC
            obtain ⟨p0, p1, p2, p3, p4⟩ := cells5 r1
            clear r1 h1
            go_wp2_with fail
            go_ret
            exact ⟨rfl, HF⟩
        · have hm2 : ((m2 : Int) == 0) = false := by simp; omega
          have gm2 : (0 : Int) < (m2 : Int) := by omega
          have HE : Hid (RES = false) := by show _ = _; rw [unhide HR]; simp_all
          rw [unhide HE]
          clear HE HR
          try clear xT
          obtain ⟨V, hV⟩ : ∃ V, V = w.heap.size := ⟨_, rfl⟩
          obtain ⟨W, hW⟩ : ∃ W, W = w.alloc (.cells #[.int .i64 1, .int .i64 0, .string (str t), .slice a1 m1 c1, .slice a2 m2 c2] 25) := ⟨_, rfl⟩
          have bW : Below w.heap.size w W := by rw [hW]; exact (Below.refl _ _).alloc (Nat.le_refl _) _
          have rW : W.heap[V]? = some (.cells #[.int .i64 1, .int .i64 0, .string (str t), .slice a1 m1 c1, .slice a2 m2 c2] 25 (0, 0)) := by rw [hW, hV]; exact heap_alloc_new _ _
          have HBW := hide bW
          have HRW := hide rW
          rw [← hW] at HC
          obtain ⟨p0, p1, p2, p3, p4⟩ := cells5 rW
          clear bW rW
          go_enter Tryz.func61, Tryz.ntmps61
          go_upto_region 1 with fail
          rw [← hW, ← hV]
          clear hW hV
          go_wp2_with fail
          refine (unhide HC).mono ?_
          rintro e w1 ⟨rfl, h1⟩
          have HF : Hid (Below w.heap.size w w1) := (unhide HBW).trans ((unhide h1).mono (unhide HBW).size)
          have r1 := ((unhide h1).block V (Array.getElem?_eq_some_iff.1 (unhide HRW)).1).trans (unhide HRW)
          clear p0 p1 p2 p3 p4 HC
          obtain ⟨p0, p1, p2, p3, p4⟩ := cells5 r1
          clear r1 h1
          go_wp2_with fail
          go_ret
          exact ⟨rfl, HF⟩
    · by_cases xM : n = 1
      · subst xM
        cases X with
        | false =>
          have HE : Hid (RES = false) := by show _ = _; rw [unhide HR]; simp_all
          rw [unhide HE]
          clear HE HR
          try clear xT
          obtain ⟨V, hV⟩ : ∃ V, V = w.heap.size := ⟨_, rfl⟩
          obtain ⟨W, hW⟩ : ∃ W, W = w.alloc (.cells #[.int .i64 1, .int .i64 1, .string (str t), .slice a1 m1 c1, .slice a2 m2 c2] 25) := ⟨_, rfl⟩
          have bW : Below w.heap.size w W := by rw [hW]; exact (Below.refl _ _).alloc (Nat.le_refl _) _
          have rW : W.heap[V]? = some (.cells #[.int .i64 1, .int .i64 1, .string (str t), .slice a1 m1 c1, .slice a2 m2 c2] 25 (0, 0)) := by rw [hW, hV]; exact heap_alloc_new _ _
          have HBW := hide bW
          have HRW := hide rW
          rw [← hW] at HC
          obtain ⟨p0, p1, p2, p3, p4⟩ := cells5 rW
          clear bW rW
          go_enter Tryz.func61, Tryz.ntmps61
          go_upto_region 1 with fail
          rw [← hW, ← hV]
          clear hW hV
          go_wp2_with fail
          refine (unhide HC).mono ?_
          rintro e w1 ⟨rfl, h1⟩
          have HF : Hid (Below w.heap.size w w1) := (unhide HBW).trans ((unhide h1).mono (unhide HBW).size)
          have r1 := ((unhide h1).block V (Array.getElem?_eq_some_iff.1 (unhide HRW)).1).trans (unhide HRW)
          clear p0 p1 p2 p3 p4 HC
          obtain ⟨p0, p1, p2, p3, p4⟩ := cells5 r1
          clear r1 h1
          go_wp2_with fail
          go_ret
          exact ⟨rfl, HF⟩
        | true =>
          by_cases xm2 : m2 = 0
          · subst xm2
            by_cases xm1 : m1 = 0
            · subst xm1
              have HE : Hid (RES = true) := by show _ = _; rw [unhide HR]; simp_all
              rw [unhide HE]
              clear HE HR
              try clear xT
              obtain ⟨V, hV⟩ : ∃ V, V = w.heap.size := ⟨_, rfl⟩
              obtain ⟨W, hW⟩ : ∃ W, W = w.alloc (.cells #[.int .i64 1, .int .i64 1, .string (str t), .slice a1 0 c1, .slice a2 0 c2] 25) := ⟨_, rfl⟩
              have bW : Below w.heap.size w W := by rw [hW]; exact (Below.refl _ _).alloc (Nat.le_refl _) _
              have rW : W.heap[V]? = some (.cells #[.int .i64 1, .int .i64 1, .string (str t), .slice a1 0 c1, .slice a2 0 c2] 25 (0, 0)) := by rw [hW, hV]; exact heap_alloc_new _ _
              have HBW := hide bW
              have HRW := hide rW
              rw [← hW] at HC
              obtain ⟨p0, p1, p2, p3, p4⟩ := cells5 rW
              clear bW rW
              go_enter Tryz.func61, Tryz.ntmps61
              go_upto_region 1 with fail
              rw [← hW, ← hV]
              clear hW hV
              go_wp2_with fail
              refine (unhide HC).mono ?_
              rintro e w1 ⟨rfl, h1⟩
              have HF : Hid (Below w.heap.size w w1) := (unhide HBW).trans ((unhide h1).mono (unhide HBW).size)
              have r1 := ((unhide h1).block V (Array.getElem?_eq_some_iff.1 (unhide HRW)).1).trans (unhide HRW)
              clear p0 p1 p2 p3 p4 HC
              obtain ⟨p0, p1, p2, p3, p4⟩ := cells5 r1
              clear r1 h1
              go_wp2_with fail
              go_ret
              exact ⟨rfl, HF⟩
            · have hm1 : ((m1 : Int) == 0) = false := by simp; omega
              have gm1 : (0 : Int) < (m1 : Int) := by omega
              have HE : Hid (RES = false) := by show _ = _; rw [unhide HR]; simp_all
              rw [unhide HE]
              clear HE HR
              try clear xT
              obtain ⟨V, hV⟩ : ∃ V, V = w.heap.size := ⟨_, rfl⟩
              obtain ⟨W, hW⟩ : ∃ W, W = w.alloc (.cells #[.int .i64 1, .int .i64 1, .string (str t), .slice a1 m1 c1, .slice a2 0 c2] 25) := ⟨_, rfl⟩
              have bW : Below w.heap.size w W := by rw [hW]; exact (Below.refl _ _).alloc (Nat.le_refl _) _
              have rW : W.heap[V]? = some (.cells #[.int .i64 1, .int .i64 1, .string (str t), .slice a1 m1 c1, .slice a2 0 c2] 25 (0, 0)) := by rw [hW, hV]; exact heap_alloc_new _ _
              have HBW := hide bW
              have HRW := hide rW
              rw [← hW] at HC
              obtain ⟨p0, p1, p2, p3, p4⟩ := cells5 rW
              clear bW rW
              go_enter Tryz.func61, Tryz.ntmps61
              go_upto_region 1 with fail
              rw [← hW, ← hV]
              clear hW hV
              go_wp2_with fail
              refine (unhide HC).mono ?_
              rintro e w1 ⟨rfl, h1⟩
              have HF : Hid (Below w.heap.size w w1) := (unhide HBW).trans ((unhide h1).mono (unhide HBW).size)
              have r1 := ((unhide h1).block V (Array.getElem?_eq_some_iff.1 (unhide HRW)).1).trans (unhide HRW)
              clear p0 p1 p2 p3 p4 HC
              obtain ⟨p0, p1, p2, p3, p4⟩ := cells5 r1
              clear r1 h1
              go_wp2_with fail
              go_ret
              exact ⟨rfl, HF⟩
          · have hm2 : ((m2 : Int) == 0) = false := by simp; omega
            have gm2 : (0 : Int) < (m2 : Int) := by omega
            have HE : Hid (RES = false) := by show _ = _; rw [unhide HR]; simp_all
            rw [unhide HE]
            clear HE HR
            try clear xT
            obtain ⟨V, hV⟩ : ∃ V, V = w.heap.size := ⟨_, rfl⟩
            obtain ⟨W, hW⟩ : ∃ W, W = w.alloc (.cells #[.int .i64 1, .int .i64 1, .string (str t), .slice a1 m1 c1, .slice a2 m2 c2] 25) := ⟨_, rfl⟩
            have bW : Below w.heap.size w W := by rw [hW]; exact (Below.refl _ _).alloc (Nat.le_refl _) _
            have rW : W.heap[V]? = some (.cells #[.int .i64 1, .int .i64 1, .string (str t), .slice a1 m1 c1, .slice a2 m2 c2] 25 (0, 0)) := by rw [hW, hV]; exact heap_alloc_new _ _
            have HBW := hide bW
            have HRW := hide rW
            rw [← hW] at HC
            obtain ⟨p0, p1, p2, p3, p4⟩ := cells5 rW
            clear bW rW
            go_enter Tryz.func61, Tryz.ntmps61
            go_upto_region 1 with fail
            rw [← hW, ← hV]
            clear hW hV
            go_wp2_with fail
            refine (unhide HC).mono ?_
            rintro e w1 ⟨rfl, h1⟩
            have HF : Hid (Below w.heap.size w w1) := (unhide HBW).trans ((unhide h1).mono (unhide HBW).size)
            have r1 := ((unhide h1).block V (Array.getElem?_eq_some_iff.1 (unhide HRW)).1).trans (unhide HRW)
            clear p0 p1 p2 p3 p4 HC
            obtain ⟨p0, p1, p2, p3, p4⟩ := cells5 r1
            clear r1 h1
            go_wp2_with fail
            go_ret
            exact ⟨rfl, HF⟩
      · have yN : (n != 0) = true := by simpa using xN
        have yM : (n != 1) = true := by simpa using xM
        have HE : Hid (RES = false) := by show _ = _; rw [unhide HR]; simp_all
        rw [unhide HE]
        clear HE HR
        try clear xT
        have HB : ∀ o, Hid (Below w.heap.size w (w.alloc o)) := fun o => hide ((Below.refl _ _).alloc (Nat.le_refl _) o)
        clear HC
        go_enter Tryz.func61, Tryz.ntmps61
        go_wp2_with fail
        go_ret
        exact ⟨rfl, HB _⟩
  · have ht1 : (str t).toList.isEmpty = false := by rw [toList_str]; simpa [btE] using xT
    have ht2 : ((str t).toList == []) = false := by rw [toList_str]; simpa using xT
    have ht3 : ((str t).toList != []) = true := by rw [toList_str]; simpa using xT
    have HE : Hid (RES = false) := by show _ = _; rw [unhide HR]; simp_all
    rw [unhide HE]
    clear HE HR
    try clear xT
    have HB : ∀ o, Hid (Below w.heap.size w (w.alloc o)) := fun o => hide ((Below.refl _ _).alloc (Nat.le_refl _) o)
    clear HC
    go_enter Tryz.func61, Tryz.ntmps61
    go_wp2_with fail
    go_ret
    exact ⟨rfl, HB _⟩
#print axioms rmay1
set_option maxHeartbeats 8000000 in
theorem rmay2 (n : Int) (t : List UInt8) (a1 a2 : Option Addr) (m1 c1 m2 c2 : Nat) (X : Bool) (w : World) (HC : Hid (Calls Tryz.prog 89 #[.string (str t)] (w.alloc (.cells #[.int .i64 2, .int .i64 n, .string (str t), .slice a1 m1 c1, .slice a2 m2 c2] 25)) fun e w' => e = .returned (.bool X) ∧ Hid (Below (w.alloc (.cells #[.int .i64 2, .int .i64 n, .string (str t), .slice a1 m1 c1, .slice a2 m2 c2] 25)).heap.size (w.alloc (.cells #[.int .i64 2, .int .i64 n, .string (str t), .slice a1 m1 c1, .slice a2 m2 c2] 25)) w'))) :
    Calls Tryz.prog 61 #[.agg #[.int .i64 2, .int .i64 n, .string (str t), .slice a1 m1 c1, .slice a2 m2 c2]] w fun e w' => e = .returned (.bool (decide (t = []) && X && decide (m2 = 0) && decide (m1 = 0))) ∧ Hid (Below w.heap.size w w') := by
  obtain ⟨RES, hRES⟩ : ∃ RES : Bool, RES = (decide (t = []) && X && decide (m2 = 0) && decide (m1 = 0)) := ⟨_, rfl⟩
  rw [← hRES]
  have HR := hide hRES
  clear hRES
  by_cases xT : t = []
  · have ht1 : (str t).toList.isEmpty = true := by rw [toList_str]; rw [xT]; rfl
    have ht2 : ((str t).toList == []) = true := by rw [toList_str]; rw [xT]; rfl
    have ht3 : ((str t).toList != []) = false := by rw [toList_str]; rw [xT]; rfl
    cases X with
    | false =>
      have HE : Hid (RES = false) := by show _ = _; rw [unhide HR]; simp_all
      rw [unhide HE]
      clear HE HR
      try clear xT
      obtain ⟨V, hV⟩ : ∃ V, V = w.heap.size := ⟨_, rfl⟩
      obtain ⟨W, hW⟩ : ∃ W, W = w.alloc (.cells #[.int .i64 2, .int .i64 n, .string (str t), .slice a1 m1 c1, .slice a2 m2 c2] 25) := ⟨_, rfl⟩
      have bW : Below w.heap.size w W := by rw [hW]; exact (Below.refl _ _).alloc (Nat.le_refl _) _
      have rW : W.heap[V]? = some (.cells #[.int .i64 2, .int .i64 n, .string (str t), .slice a1 m1 c1, .slice a2 m2 c2] 25 (0, 0)) := by rw [hW, hV]; exact heap_alloc_new _ _
      have HBW := hide bW
      have HRW := hide rW
      rw [← hW] at HC
      obtain ⟨p0, p1, p2, p3, p4⟩ := cells5 rW
      clear bW rW
      go_enter Tryz.func61, Tryz.ntmps61
      go_upto_region 1 with fail
      rw [← hW, ← hV]
      clear hW hV
      go_wp2_with fail
      refine (unhide HC).mono ?_
      rintro e w1 ⟨rfl, h1⟩
      have HF : Hid (Below w.heap.size w w1) := (unhide HBW).trans ((unhide h1).mono (unhide HBW).size)
      have r1 := ((unhide h1).block V (Array.getElem?_eq_some_iff.1 (unhide HRW)).1).trans (unhide HRW)
      clear p0 p1 p2 p3 p4 HC
      obtain ⟨p0, p1, p2, p3, p4⟩ := cells5 r1
      clear r1 h1
      go_wp2_with fail
      go_ret
      exact ⟨rfl, HF⟩
    | true =>
      by_cases xm2 : m2 = 0
      · subst xm2
        by_cases xm1 : m1 = 0
        · subst xm1
          have HE : Hid (RES = true) := by show _ = _; rw [unhide HR]; simp_all
          rw [unhide HE]
          clear HE HR
          try clear xT
          obtain ⟨V, hV⟩ : ∃ V, V = w.heap.size := ⟨_, rfl⟩
          obtain ⟨W, hW⟩ : ∃ W, W = w.alloc (.cells #[.int .i64 2, .int .i64 n, .string (str t), .slice a1 0 c1, .slice a2 0 c2] 25) := ⟨_, rfl⟩
          have bW : Below w.heap.size w W := by rw [hW]; exact (Below.refl _ _).alloc (Nat.le_refl _) _
          have rW : W.heap[V]? = some (.cells #[.int .i64 2, .int .i64 n, .string (str t), .slice a1 0 c1, .slice a2 0 c2] 25 (0, 0)) := by rw [hW, hV]; exact heap_alloc_new _ _
          have HBW := hide bW
          have HRW := hide rW
          rw [← hW] at HC
          obtain ⟨p0, p1, p2, p3, p4⟩ := cells5 rW
          clear bW rW
          go_enter Tryz.func61, Tryz.ntmps61
          go_upto_region 1 with fail
          rw [← hW, ← hV]
          clear hW hV
          go_wp2_with fail
          refine (unhide HC).mono ?_
          rintro e w1 ⟨rfl, h1⟩
          have HF : Hid (Below w.heap.size w w1) := (unhide HBW).trans ((unhide h1).mono (unhide HBW).size)
          have r1 := ((unhide h1).block V (Array.getElem?_eq_some_iff.1 (unhide HRW)).1).trans (unhide HRW)
          clear p0 p1 p2 p3 p4 HC
          obtain ⟨p0, p1, p2, p3, p4⟩ := cells5 r1
          clear r1 h1
          go_wp2_with fail
          go_ret
          exact ⟨rfl, HF⟩
        · have hm1 : ((m1 : Int) == 0) = false := by simp; omega
          have gm1 : (0 : Int) < (m1 : Int) := by omega
          have HE : Hid (RES = false) := by show _ = _; rw [unhide HR]; simp_all
          rw [unhide HE]
          clear HE HR
          try clear xT
          obtain ⟨V, hV⟩ : ∃ V, V = w.heap.size := ⟨_, rfl⟩
          obtain ⟨W, hW⟩ : ∃ W, W = w.alloc (.cells #[.int .i64 2, .int .i64 n, .string (str t), .slice a1 m1 c1, .slice a2 0 c2] 25) := ⟨_, rfl⟩
          have bW : Below w.heap.size w W := by rw [hW]; exact (Below.refl _ _).alloc (Nat.le_refl _) _
          have rW : W.heap[V]? = some (.cells #[.int .i64 2, .int .i64 n, .string (str t), .slice a1 m1 c1, .slice a2 0 c2] 25 (0, 0)) := by rw [hW, hV]; exact heap_alloc_new _ _
          have HBW := hide bW
          have HRW := hide rW
          rw [← hW] at HC
          obtain ⟨p0, p1, p2, p3, p4⟩ := cells5 rW
          clear bW rW
          go_enter Tryz.func61, Tryz.ntmps61
          go_upto_region 1 with fail
          rw [← hW, ← hV]
          clear hW hV
          go_wp2_with fail
          refine (unhide HC).mono ?_
          rintro e w1 ⟨rfl, h1⟩
          have HF : Hid (Below w.heap.size w w1) := (unhide HBW).trans ((unhide h1).mono (unhide HBW).size)
          have r1 := ((unhide h1).block V (Array.getElem?_eq_some_iff.1 (unhide HRW)).1).trans (unhide HRW)
          clear p0 p1 p2 p3 p4 HC
          obtain ⟨p0, p1, p2, p3, p4⟩ := cells5 r1
          clear r1 h1
          go_wp2_with fail
          go_ret
          exact ⟨rfl, HF⟩
      · have hm2 : ((m2 : Int) == 0) = false := by simp; omega
        have gm2 : (0 : Int) < (m2 : Int) := by omega
        have HE : Hid (RES = false) := by show _ = _; rw [unhide HR]; simp_all
        rw [unhide HE]
        clear HE HR
        try clear xT
        obtain ⟨V, hV⟩ : ∃ V, V = w.heap.size := ⟨_, rfl⟩
        obtain ⟨W, hW⟩ : ∃ W, W = w.alloc (.cells #[.int .i64 2, .int .i64 n, .string (str t), .slice a1 m1 c1, .slice a2 m2 c2] 25) := ⟨_, rfl⟩
        have bW : Below w.heap.size w W := by rw [hW]; exact (Below.refl _ _).alloc (Nat.le_refl _) _
        have rW : W.heap[V]? = some (.cells #[.int .i64 2, .int .i64 n, .string (str t), .slice a1 m1 c1, .slice a2 m2 c2] 25 (0, 0)) := by rw [hW, hV]; exact heap_alloc_new _ _
        have HBW := hide bW
        have HRW := hide rW
        rw [← hW] at HC
        obtain ⟨p0, p1, p2, p3, p4⟩ := cells5 rW
        clear bW rW
        go_enter Tryz.func61, Tryz.ntmps61
        go_upto_region 1 with fail
        rw [← hW, ← hV]
        clear hW hV
        go_wp2_with fail
        refine (unhide HC).mono ?_
        rintro e w1 ⟨rfl, h1⟩
        have HF : Hid (Below w.heap.size w w1) := (unhide HBW).trans ((unhide h1).mono (unhide HBW).size)
        have r1 := ((unhide h1).block V (Array.getElem?_eq_some_iff.1 (unhide HRW)).1).trans (unhide HRW)
        clear p0 p1 p2 p3 p4 HC
        obtain ⟨p0, p1, p2, p3, p4⟩ := cells5 r1
        clear r1 h1
        go_wp2_with fail
        go_ret
        exact ⟨rfl, HF⟩
  · have ht1 : (str t).toList.isEmpty = false := by rw [toList_str]; simpa [btE] using xT
    have ht2 : ((str t).toList == []) = false := by rw [toList_str]; simpa using xT
    have ht3 : ((str t).toList != []) = true := by rw [toList_str]; simpa using xT
    have HE : Hid (RES = false) := by show _ = _; rw [unhide HR]; simp_all
    rw [unhide HE]
    clear HE HR
    try clear xT
    have HB : ∀ o, Hid (Below w.heap.size w (w.alloc o)) := fun o => hide ((Below.refl _ _).alloc (Nat.le_refl _) o)
    clear HC
    go_enter Tryz.func61, Tryz.ntmps61
    go_wp2_with fail
    go_ret
    exact ⟨rfl, HB _⟩
#print axioms rmay2
set_option maxHeartbeats 8000000 in
theorem rmay3 (n : Int) (t : List UInt8) (a1 a2 : Option Addr) (m1 c1 m2 c2 : Nat) (X : Bool) (w : World) (HC : Hid (Calls Tryz.prog 89 #[.string (str t)] (w.alloc (.cells #[.int .i64 3, .int .i64 n, .string (str t), .slice a1 m1 c1, .slice a2 m2 c2] 25)) fun e w' => e = .returned (.bool X) ∧ Hid (Below (w.alloc (.cells #[.int .i64 3, .int .i64 n, .string (str t), .slice a1 m1 c1, .slice a2 m2 c2] 25)).heap.size (w.alloc (.cells #[.int .i64 3, .int .i64 n, .string (str t), .slice a1 m1 c1, .slice a2 m2 c2] 25)) w'))) :
    Calls Tryz.prog 61 #[.agg #[.int .i64 3, .int .i64 n, .string (str t), .slice a1 m1 c1, .slice a2 m2 c2]] w fun e w' => e = .returned (.bool ((n == 0) && X && decide (m2 = 0) && decide (m1 = 0))) ∧ Hid (Below w.heap.size w w') := by
  obtain ⟨RES, hRES⟩ : ∃ RES : Bool, RES = ((n == 0) && X && decide (m2 = 0) && decide (m1 = 0)) := ⟨_, rfl⟩
  rw [← hRES]
  have HR := hide hRES
  clear hRES
  by_cases xN : n = 0
  · subst xN
    cases X with
    | false =>
      have HE : Hid (RES = false) := by show _ = _; rw [unhide HR]; simp_all
      rw [unhide HE]
      clear HE HR
      try clear xT
      obtain ⟨V, hV⟩ : ∃ V, V = w.heap.size := ⟨_, rfl⟩
      obtain ⟨W, hW⟩ : ∃ W, W = w.alloc (.cells #[.int .i64 3, .int .i64 0, .string (str t), .slice a1 m1 c1, .slice a2 m2 c2] 25) := ⟨_, rfl⟩
      have bW : Below w.heap.size w W := by rw [hW]; exact (Below.refl _ _).alloc (Nat.le_refl _) _
      have rW : W.heap[V]? = some (.cells #[.int .i64 3, .int .i64 0, .string (str t), .slice a1 m1 c1, .slice a2 m2 c2] 25 (0, 0)) := by rw [hW, hV]; exact heap_alloc_new _ _
      have HBW := hide bW
      have HRW := hide rW
      rw [← hW] at HC
      obtain ⟨p0, p1, p2, p3, p4⟩ := cells5 rW
      clear bW rW
      go_enter Tryz.func61, Tryz.ntmps61
      go_upto_region 1 with fail
      rw [← hW, ← hV]
      clear hW hV
      go_wp2_with fail
      refine (unhide HC).mono ?_
      rintro e w1 ⟨rfl, h1⟩
      have HF : Hid (Below w.heap.size w w1) := (unhide HBW).trans ((unhide h1).mono (unhide HBW).size)
      have r1 := ((unhide h1).block V (Array.getElem?_eq_some_iff.1 (unhide HRW)).1).trans (unhide HRW)
      clear p0 p1 p2 p3 p4 HC
      obtain ⟨p0, p1, p2, p3, p4⟩ := cells5 r1
      clear r1 h1
      go_wp2_with fail
      go_ret
      exact ⟨rfl, HF⟩
    | true =>
      by_cases xm2 : m2 = 0
      · subst xm2
        by_cases xm1 : m1 = 0
        · subst xm1
          have HE : Hid (RES = true) := by show _ = _; rw [unhide HR]; simp_all
          rw [unhide HE]
          clear HE HR
          try clear xT
          obtain ⟨V, hV⟩ : ∃ V, V = w.heap.size := ⟨_, rfl⟩
          obtain ⟨W, hW⟩ : ∃ W, W = w.alloc (.cells #[.int .i64 3, .int .i64 0, .string (str t), .slice a1 0 c1, .slice a2 0 c2] 25) := ⟨_, rfl⟩
          have bW : Below w.heap.size w W := by rw [hW]; exact (Below.refl _ _).alloc (Nat.le_refl _) _
          have rW : W.heap[V]? = some (.cells #[.int .i64 3, .int .i64 0, .string (str t), .slice a1 0 c1, .slice a2 0 c2] 25 (0, 0)) := by rw [hW, hV]; exact heap_alloc_new _ _
          have HBW := hide bW
          have HRW := hide rW
          rw [← hW] at HC
          obtain ⟨p0, p1, p2, p3, p4⟩ := cells5 rW
          clear bW rW
          go_enter Tryz.func61, Tryz.ntmps61
          go_upto_region 1 with fail
          rw [← hW, ← hV]
          clear hW hV
          go_wp2_with fail
          refine (unhide HC).mono ?_
          rintro e w1 ⟨rfl, h1⟩
          have HF : Hid (Below w.heap.size w w1) := (unhide HBW).trans ((unhide h1).mono (unhide HBW).size)
          have r1 := ((unhide h1).block V (Array.getElem?_eq_some_iff.1 (unhide HRW)).1).trans (unhide HRW)
          clear p0 p1 p2 p3 p4 HC
          obtain ⟨p0, p1, p2, p3, p4⟩ := cells5 r1
          clear r1 h1
          go_wp2_with fail
          go_ret
          exact ⟨rfl, HF⟩
        · have hm1 : ((m1 : Int) == 0) = false := by simp; omega
          have gm1 : (0 : Int) < (m1 : Int) := by omega
          have HE : Hid (RES = false) := by show _ = _; rw [unhide HR]; simp_all
          rw [unhide HE]
          clear HE HR
          try clear xT
          obtain ⟨V, hV⟩ : ∃ V, V = w.heap.size := ⟨_, rfl⟩
          obtain ⟨W, hW⟩ : ∃ W, W = w.alloc (.cells #[.int .i64 3, .int .i64 0, .string (str t), .slice a1 m1 c1, .slice a2 0 c2] 25) := ⟨_, rfl⟩
          have bW : Below w.heap.size w W := by rw [hW]; exact (Below.refl _ _).alloc (Nat.le_refl _) _
          have rW : W.heap[V]? = some (.cells #[.int .i64 3, .int .i64 0, .string (str t), .slice a1 m1 c1, .slice a2 0 c2] 25 (0, 0)) := by rw [hW, hV]; exact heap_alloc_new _ _
          have HBW := hide bW
          have HRW := hide rW
          rw [← hW] at HC
          obtain ⟨p0, p1, p2, p3, p4⟩ := cells5 rW
          clear bW rW
          go_enter Tryz.func61, Tryz.ntmps61
          go_upto_region 1 with fail
          rw [← hW, ← hV]
          clear hW hV
          go_wp2_with fail
          refine (unhide HC).mono ?_
          rintro e w1 ⟨rfl, h1⟩
          have HF : Hid (Below w.heap.size w w1) := (unhide HBW).trans ((unhide h1).mono (unhide HBW).size)
          have r1 := ((unhide h1).block V (Array.getElem?_eq_some_iff.1 (unhide HRW)).1).trans (unhide HRW)
          clear p0 p1 p2 p3 p4 HC
          obtain ⟨p0, p1, p2, p3, p4⟩ := cells5 r1
          clear r1 h1
          go_wp2_with fail
          go_ret
          exact ⟨rfl, HF⟩
      · have hm2 : ((m2 : Int) == 0) = false := by simp; omega
        have gm2 : (0 : Int) < (m2 : Int) := by omega
        have HE : Hid (RES = false) := by show _ = _; rw [unhide HR]; simp_all
        rw [unhide HE]
        clear HE HR
        try clear xT
        obtain ⟨V, hV⟩ : ∃ V, V = w.heap.size := ⟨_, rfl⟩
        obtain ⟨W, hW⟩ : ∃ W, W = w.alloc (.cells #[.int .i64 3, .int .i64 0, .string (str t), .slice a1 m1 c1, .slice a2 m2 c2] 25) := ⟨_, rfl⟩
        have bW : Below w.heap.size w W := by rw [hW]; exact (Below.refl _ _).alloc (Nat.le_refl _) _
        have rW : W.heap[V]? = some (.cells #[.int .i64 3, .int .i64 0, .string (str t), .slice a1 m1 c1, .slice a2 m2 c2] 25 (0, 0)) := by rw [hW, hV]; exact heap_alloc_new _ _
        have HBW := hide bW
        have HRW := hide rW
        rw [← hW] at HC
        obtain ⟨p0, p1, p2, p3, p4⟩ := cells5 rW
        clear bW rW
        go_enter Tryz.func61, Tryz.ntmps61
        go_upto_region 1 with fail
        rw [← hW, ← hV]
        clear hW hV
        go_wp2_with fail
        refine (unhide HC).mono ?_
        rintro e w1 ⟨rfl, h1⟩
        have HF : Hid (Below w.heap.size w w1) := (unhide HBW).trans ((unhide h1).mono (unhide HBW).size)
        have r1 := ((unhide h1).block V (Array.getElem?_eq_some_iff.1 (unhide HRW)).1).trans (unhide HRW)
        clear p0 p1 p2 p3 p4 HC
        obtain ⟨p0, p1, p2, p3, p4⟩ := cells5 r1
        clear r1 h1
        go_wp2_with fail
        go_ret
        exact ⟨rfl, HF⟩
  · have yN : (n != 0) = true := by simpa using xN
    have HE : Hid (RES = false) := by show _ = _; rw [unhide HR]; simp_all
    rw [unhide HE]
    clear HE HR
    try clear xT
    have HB : ∀ o, Hid (Below w.heap.size w (w.alloc o)) := fun o => hide ((Below.refl _ _).alloc (Nat.le_refl _) o)
    clear HC
    go_enter Tryz.func61, Tryz.ntmps61
    go_wp2_with fail
    go_ret
    exact ⟨rfl, HB _⟩
#print axioms rmay3
set_option maxHeartbeats 8000000 in
theorem rmay4 (n : Int) (t : List UInt8) (a1 a2 : Option Addr) (m1 c1 m2 c2 : Nat) (X : Bool) (w : World) (HC : Hid (Calls Tryz.prog 89 #[.string (str t)] (w.alloc (.cells #[.int .i64 4, .int .i64 n, .string (str t), .slice a1 m1 c1, .slice a2 m2 c2] 25)) fun e w' => e = .returned (.bool X) ∧ Hid (Below (w.alloc (.cells #[.int .i64 4, .int .i64 n, .string (str t), .slice a1 m1 c1, .slice a2 m2 c2] 25)).heap.size (w.alloc (.cells #[.int .i64 4, .int .i64 n, .string (str t), .slice a1 m1 c1, .slice a2 m2 c2] 25)) w'))) :
    Calls Tryz.prog 61 #[.agg #[.int .i64 4, .int .i64 n, .string (str t), .slice a1 m1 c1, .slice a2 m2 c2]] w fun e w' => e = .returned (.bool ((n == 0) && decide (t = []) && X && decide (m1 = 0))) ∧ Hid (Below w.heap.size w w') := by
  obtain ⟨RES, hRES⟩ : ∃ RES : Bool, RES = ((n == 0) && decide (t = []) && X && decide (m1 = 0)) := ⟨_, rfl⟩
  rw [← hRES]
  have HR := hide hRES
  clear hRES
  by_cases xN : n = 0
  · subst xN
    by_cases xT : t = []
    · have ht1 : (str t).toList.isEmpty = true := by rw [toList_str]; rw [xT]; rfl
      have ht2 : ((str t).toList == []) = true := by rw [toList_str]; rw [xT]; rfl
      have ht3 : ((str t).toList != []) = false := by rw [toList_str]; rw [xT]; rfl
      cases X with
      | false =>
        have HE : Hid (RES = false) := by show _ = _; rw [unhide HR]; simp_all
        rw [unhide HE]
        clear HE HR
        try clear xT
        obtain ⟨V, hV⟩ : ∃ V, V = w.heap.size := ⟨_, rfl⟩
        obtain ⟨W, hW⟩ : ∃ W, W = w.alloc (.cells #[.int .i64 4, .int .i64 0, .string (str t), .slice a1 m1 c1, .slice a2 m2 c2] 25) := ⟨_, rfl⟩
        have bW : Below w.heap.size w W := by rw [hW]; exact (Below.refl _ _).alloc (Nat.le_refl _) _
        have rW : W.heap[V]? = some (.cells #[.int .i64 4, .int .i64 0, .string (str t), .slice a1 m1 c1, .slice a2 m2 c2] 25 (0, 0)) := by rw [hW, hV]; exact heap_alloc_new _ _
        have HBW := hide bW
        have HRW := hide rW
        rw [← hW] at HC
        obtain ⟨p0, p1, p2, p3, p4⟩ := cells5 rW
        clear bW rW
        go_enter Tryz.func61, Tryz.ntmps61
        go_upto_region 1 with fail
        rw [← hW, ← hV]
        clear hW hV
        go_wp2_with fail
        refine (unhide HC).mono ?_
        rintro e w1 ⟨rfl, h1⟩
        have HF : Hid (Below w.heap.size w w1) := (unhide HBW).trans ((unhide h1).mono (unhide HBW).size)
        have r1 := ((unhide h1).block V (Array.getElem?_eq_some_iff.1 (unhide HRW)).1).trans (unhide HRW)
        clear p0 p1 p2 p3 p4 HC
        obtain ⟨p0, p1, p2, p3, p4⟩ := cells5 r1
        clear r1 h1
        go_wp2_with fail
        go_ret
        exact ⟨rfl, HF⟩
      | true =>
        by_cases xm1 : m1 = 0
        · subst xm1
          have HE : Hid (RES = true) := by show _ = _; rw [unhide HR]; simp_all
          rw [unhide HE]
          clear HE HR
          try clear xT
          obtain ⟨V, hV⟩ : ∃ V, V = w.heap.size := ⟨_, rfl⟩
          obtain ⟨W, hW⟩ : ∃ W, W = w.alloc (.cells #[.int .i64 4, .int .i64 0, .string (str t), .slice a1 0 c1, .slice a2 m2 c2] 25) := ⟨_, rfl⟩
          have bW : Below w.heap.size w W := by rw [hW]; exact (Below.refl _ _).alloc (Nat.le_refl _) _
          have rW : W.heap[V]? = some (.cells #[.int .i64 4, .int .i64 0, .string (str t), .slice a1 0 c1, .slice a2 m2 c2] 25 (0, 0)) := by rw [hW, hV]; exact heap_alloc_new _ _
          have HBW := hide bW
          have HRW := hide rW
          rw [← hW] at HC
          obtain ⟨p0, p1, p2, p3, p4⟩ := cells5 rW
          clear bW rW
          go_enter Tryz.func61, Tryz.ntmps61
          go_upto_region 1 with fail
          rw [← hW, ← hV]
          clear hW hV
          go_wp2_with fail
          refine (unhide HC).mono ?_
          rintro e w1 ⟨rfl, h1⟩
          have HF : Hid (Below w.heap.size w w1) := (unhide HBW).trans ((unhide h1).mono (unhide HBW).size)
          have r1 := ((unhide h1).block V (Array.getElem?_eq_some_iff.1 (unhide HRW)).1).trans (unhide HRW)
          clear p0 p1 p2 p3 p4 HC
          obtain ⟨p0, p1, p2, p3, p4⟩ := cells5 r1
          clear r1 h1
          go_wp2_with fail
          go_ret
          exact ⟨rfl, HF⟩
        · have hm1 : ((m1 : Int) == 0) = false := by simp; omega
          have gm1 : (0 : Int) < (m1 : Int) := by omega
          have HE : Hid (RES = false) := by show _ = _; rw [unhide HR]; simp_all
          rw [unhide HE]
          clear HE HR
          try clear xT
          obtain ⟨V, hV⟩ : ∃ V, V = w.heap.size := ⟨_, rfl⟩
          obtain ⟨W, hW⟩ : ∃ W, W = w.alloc (.cells #[.int .i64 4, .int .i64 0, .string (str t), .slice a1 m1 c1, .slice a2 m2 c2] 25) := ⟨_, rfl⟩
          have bW : Below w.heap.size w W := by rw [hW]; exact (Below.refl _ _).alloc (Nat.le_refl _) _
          have rW : W.heap[V]? = some (.cells #[.int .i64 4, .int .i64 0, .string (str t), .slice a1 m1 c1, .slice a2 m2 c2] 25 (0, 0)) := by rw [hW, hV]; exact heap_alloc_new _ _
          have HBW := hide bW
          have HRW := hide rW
          rw [← hW] at HC
          obtain ⟨p0, p1, p2, p3, p4⟩ := cells5 rW
          clear bW rW
          go_enter Tryz.func61, Tryz.ntmps61
          go_upto_region 1 with fail
          rw [← hW, ← hV]
          clear hW hV
          go_wp2_with fail
          refine (unhide HC).mono ?_
          rintro e w1 ⟨rfl, h1⟩
          have HF : Hid (Below w.heap.size w w1) := (unhide HBW).trans ((unhide h1).mono (unhide HBW).size)
          have r1 := ((unhide h1).block V (Array.getElem?_eq_some_iff.1 (unhide HRW)).1).trans (unhide HRW)
          clear p0 p1 p2 p3 p4 HC
          obtain ⟨p0, p1, p2, p3, p4⟩ := cells5 r1
          clear r1 h1
          go_wp2_with fail
          go_ret
          exact ⟨rfl, HF⟩
    · have ht1 : (str t).toList.isEmpty = false := by rw [toList_str]; simpa [btE] using xT
      have ht2 : ((str t).toList == []) = false := by rw [toList_str]; simpa using xT
      have ht3 : ((str t).toList != []) = true := by rw [toList_str]; simpa using xT
      have HE : Hid (RES = false) := by show _ = _; rw [unhide HR]; simp_all
      rw [unhide HE]
      clear HE HR
      try clear xT
      have HB : ∀ o, Hid (Below w.heap.size w (w.alloc o)) := fun o => hide ((Below.refl _ _).alloc (Nat.le_refl _) o)
      clear HC
      go_enter Tryz.func61, Tryz.ntmps61
      go_wp2_with fail
      go_ret
      exact ⟨rfl, HB _⟩
  · have yN : (n != 0) = true := by simpa using xN
    have HE : Hid (RES = false) := by show _ = _; rw [unhide HR]; simp_all
    rw [unhide HE]
    clear HE HR
    try clear xT
    have HB : ∀ o, Hid (Below w.heap.size w (w.alloc o)) := fun o => hide ((Below.refl _ _).alloc (Nat.le_refl _) o)
    clear HC
    go_enter Tryz.func61, Tryz.ntmps61
    go_wp2_with fail
    go_ret
    exact ⟨rfl, HB _⟩
#print axioms rmay4
end Go.Proofs.YtbnbngmnoffmkaaGreatDoor
end
section
set_option linter.unusedVariables false
set_option maxRecDepth 1000000
namespace Go.Proofs.YtbnbngmnoffmkaaGreatDoor
open Go.RowKit

theorem all_drop (p : List UInt8 → Bool) (l : List (List UInt8)) (i : Nat) (s : List UInt8) (h : l[i]? = some s) : (l.drop i).all p = (p s && (l.drop (i + 1)).all p) := by
  have hl2 := (List.getElem?_eq_some_iff.1 h).1
  rw [List.drop_eq_getElem_cons hl2, List.all_cons, (List.getElem?_eq_some_iff.1 h).2]
set_option maxHeartbeats 8000000 in
theorem rmay5 (n : Int) (t : List UInt8) (ns : List (List UInt8)) (a1 a2 : Option Addr) (c1 m2 c2 : Nat) (S : Nat → Prop) (w : World) (hN : NsF w S a1 ns) (hS : ∀ k, S k → k < w.heap.size) (hnc : ns.length ≤ c1) (hnl : ns.length ≤ 100000) (hm2 : m2 ≤ 100000) (hns : ∀ s ∈ ns, s.length ≤ 100000) :
    Calls Tryz.prog 61 #[.agg #[.int .i64 5, .int .i64 n, .string (str t), .slice a1 ns.length c1, .slice a2 m2 c2]] w fun e w' => e = .returned (.bool ((n == 0) && decide (t = []) && decide (ns.length = m2) && ns.all fun s => decide (chr s = none))) ∧ Hid (Below w.heap.size w w') := by
  obtain ⟨RES, hRES⟩ : ∃ RES : Bool, RES = ((n == 0) && decide (t = []) && decide (ns.length = m2) && ns.all fun s => decide (chr s = none)) := ⟨_, rfl⟩
  rw [← hRES]
  have HR := hide hRES
  obtain ⟨g, hg⟩ : ∃ g, g = ns.length := ⟨_, rfl⟩
  have HG := hide hg
  rw [← hg] at hnc hnl ⊢
  clear hRES
  by_cases xN : n = 0
  · subst xN
    by_cases xT : t = []
    · have ht1 : (str t).toList.isEmpty = true := by rw [toList_str]; rw [xT]; rfl
      have ht2 : ((str t).toList == []) = true := by rw [toList_str]; rw [xT]; rfl
      have ht3 : ((str t).toList != []) = false := by rw [toList_str]; rw [xT]; rfl
      have HR2 : Hid (RES = (decide (g = m2) && ns.all fun s => decide (chr s = none))) := by
        show _ = _
        rw [unhide HR, xT, unhide HG]; simp
      obtain ⟨V, hV⟩ : ∃ V, V = w.heap.size := ⟨_, rfl⟩
      obtain ⟨W, hW⟩ : ∃ W, W = w.alloc (.cells #[.int .i64 5, .int .i64 0, .string (str t), .slice a1 g c1, .slice a2 m2 c2] 25) := ⟨_, rfl⟩
      have bW : Below w.heap.size w W := by rw [hW]; exact (Below.refl _ _).alloc (Nat.le_refl _) _
      have rW : W.heap[V]? = some (.cells #[.int .i64 5, .int .i64 0, .string (str t), .slice a1 g c1, .slice a2 m2 c2] 25 (0, 0)) := by rw [hW, hV]; exact heap_alloc_new _ _
      have HC : Hid (Calls Tryz.prog 89 #[.string (str t)] W fun e w' => e = .returned (.bool true) ∧ Hid (Below W.heap.size W w')) := by
        have h := rcha_any t W (by rw [xT]; simp)
        have e : decide (chr t = none) = true := by rw [xT]; simp [chr]
        rw [e] at h
        exact h
      have HBW := hide bW
      have HRW := hide rW
      have HN := hide hN
      have HS := hide hS
      have HNS := hide hns
      obtain ⟨p0, p1, p2, p3, p4⟩ := cells5 rW
      clear bW rW hN hS hns hg xT HR
      go_enter Tryz.func61, Tryz.ntmps61
      go_upto_region 1 with fail
      rw [← hW, ← hV]
      clear hW hV
      go_wp2_with fail
      refine (unhide HC).mono ?_
      rintro e w1 ⟨rfl, h1⟩
      have HF1 : Hid (Below W.heap.size W w1) := unhide h1
      have HK : Hid (∀ u, Below W.heap.size W u → u.heap[V]? = some (.cells #[.int .i64 5, .int .i64 0, .string (str t), .slice a1 g c1, .slice a2 m2 c2] 25 (0, 0))) := fun u hu => (hu.block V (Array.getElem?_eq_some_iff.1 (unhide HRW)).1).trans (unhide HRW)
      clear p0 p1 p2 p3 p4 HC h1
      obtain ⟨p0, p1, p2, p3, p4⟩ := cells5 (unhide HK w1 (unhide HF1))
      go_wp2_with fail
      clear p0 p1 p2 p3 p4 ht1 ht2 ht3
      go_loopw [78] (fun v wr => ∃ (i : Nat), i ≤ g ∧ v = .int .i64 (i : Int) ∧ Hid (ns.all (fun s => decide (chr s = none)) = (ns.drop i).all fun s => decide (chr s = none)) ∧ Hid (Below W.heap.size W wr)) (fun v _ => g - (intOf v).toNat)
      case atStart => exact ⟨0, Nat.zero_le _, rfl, by show _ = _; rw [List.drop_zero], HF1⟩
      case round =>
        obtain ⟨i, hi, rfl, HQ, HMi⟩ := hrel
        by_cases hlt : i < g
        · have hlt' : (i : Int) < (g : Int) := by omega
          obtain ⟨s, hs⟩ : ∃ s, ns[i]? = some s := ⟨_, List.getElem?_eq_getElem (by rw [← unhide HG]; exact hlt)⟩
          have hne : ns ≠ [] := fun e => by rw [e] at hs; simp at hs
          obtain ⟨B, ob, rfl, hSB, hBc⟩ := (unhide HN) hne
          have kB := ((unhide HMi).block B (Nat.lt_of_lt_of_le (unhide HS B hSB) (unhide HBW).size)).trans ((unhide HBW).block B (unhide HS B hSB))
          have c0 := cell_keep kB (hBc i s hs)
          have HCs := hide (rcha_any s wr (by have := unhide HNS s (List.mem_of_getElem? hs); omega))
          have HQ2 : Hid (ns.all (fun s => decide (chr s = none)) = (decide (chr s = none) && (ns.drop (i + 1)).all fun s => decide (chr s = none))) := by
            show _ = _
            rw [unhide HQ, all_drop _ ns i s hs]
          generalize decide (chr s = none) = Y at HCs HQ2
          clear hs hne hSB hBc HQ kB
          cases Y with
          | false =>
            have HRf : Hid (RES = false) := by show _ = _; rw [unhide HR2, unhide HQ2]; simp
            go_wp2_with fail
            refine (unhide HCs).mono ?_
            rintro e w3 ⟨rfl, h3⟩
            have HFF : Hid (Below w.heap.size w w3) := (unhide HBW).trans (((unhide HMi).trans ((unhide h3).mono (unhide HMi).size)).mono (unhide HBW).size)
            go_wp2_with fail
            go_ret
            rw [unhide HRf]
            exact ⟨rfl, HFF⟩
          | true =>
            go_wp2_with fail
            refine (unhide HCs).mono ?_
            rintro e w3 ⟨rfl, h3⟩
            have HM3 : Hid (Below W.heap.size W w3) := (unhide HMi).trans ((unhide h3).mono (unhide HMi).size)
            have HQ3 : Hid (ns.all (fun s => decide (chr s = none)) = (ns.drop (i + 1)).all fun s => decide (chr s = none)) := by show _ = _; rw [unhide HQ2]; simp
            clear c0 HCs h3
            go_wp2_with fail
            go_roundw
            case rel => exact ⟨i + 1, by omega, by go_num, HQ3, HM3⟩
            case measure => simp [intOf]; omega
        · have hlt' : ¬ (i : Int) < (g : Int) := by omega
          obtain ⟨p0, p1, p2, p3, p4⟩ := cells5 (unhide HK wr (unhide HMi))
          have HR3 : Hid (RES = decide (g = m2)) := by
            show _ = _
            rw [unhide HR2, unhide HQ, List.drop_of_length_le (by rw [← unhide HG]; omega)]; simp
          have HFF : Hid (Below w.heap.size w wr) := (unhide HBW).trans ((unhide HMi).mono (unhide HBW).size)
          by_cases xL : g = m2
          · subst xL
            go_wp2_with fail
            go_ret
            rw [unhide HR3]
            exact ⟨by simp, HFF⟩
          · have hl0 : ((g : Int) == (m2 : Int)) = false := by simp; omega
            have HR4 : Hid (RES = false) := by show _ = _; rw [unhide HR3]; exact decide_eq_false xL
            clear HR3
            go_wp2_with fail
            go_ret
            rw [unhide HR4]
            exact ⟨rfl, HFF⟩
    · have HE : Hid (RES = false) := by show _ = _; rw [unhide HR, decide_eq_false xT]; simp
      rw [unhide HE]; clear HE HR
      have ht1 : (str t).toList.isEmpty = false := by rw [toList_str]; simpa [btE] using xT
      have ht2 : ((str t).toList == []) = false := by rw [toList_str]; simpa using xT
      have ht3 : ((str t).toList != []) = true := by rw [toList_str]; simpa using xT
      have HB : ∀ o, Hid (Below w.heap.size w (w.alloc o)) := fun o => hide ((Below.refl _ _).alloc (Nat.le_refl _) o)
      clear hN hS hns hg HG
      go_enter Tryz.func61, Tryz.ntmps61
      go_wp2_with fail
      go_ret
      exact ⟨rfl, HB _⟩
  · have HE : Hid (RES = false) := by show _ = _; rw [unhide HR]; simp [xN]
    rw [unhide HE]; clear HE HR
    have HB : ∀ o, Hid (Below w.heap.size w (w.alloc o)) := fun o => hide ((Below.refl _ _).alloc (Nat.le_refl _) o)
    clear hN hS hns hg HG
    go_enter Tryz.func61, Tryz.ntmps61
    go_wp2_with fail
    go_ret
    exact ⟨rfl, HB _⟩
#print axioms rmay5
end Go.Proofs.YtbnbngmnoffmkaaGreatDoor
end
section
set_option linter.unusedVariables false
set_option maxRecDepth 1000000
namespace Go.Proofs.YtbnbngmnoffmkaaGreatDoor
open Go.RowKit

set_option maxHeartbeats 8000000 in
theorem rmayo (k n : Int) (t : List UInt8) (a1 a2 : Option Addr) (m1 c1 m2 c2 : Nat) (w : World) (hk : k < 0 ∨ 5 < k) :
    Calls Tryz.prog 61 #[.agg #[.int .i64 k, .int .i64 n, .string (str t), .slice a1 m1 c1, .slice a2 m2 c2]] w fun e w' => e = .returned (.bool false) ∧ Hid (Below w.heap.size w w') := by
  have HB : ∀ o, Hid (Below w.heap.size w (w.alloc o)) := fun o => hide ((Below.refl _ _).alloc (Nat.le_refl _) o)
  by_cases h0 : k < 0
  · clear hk
    go_enter Tryz.func61, Tryz.ntmps61
    go_wp2_with fail
    go_ret
    exact ⟨rfl, HB _⟩
  · have h5 : 5 < k := by omega
    clear hk
    go_enter Tryz.func61, Tryz.ntmps61
    go_wp2_with fail
    go_ret
    exact ⟨rfl, HB _⟩
theorem chN : chr [] = none := by simp [chr]
theorem rmay_any (k n : Int) (t : List UInt8) (ns : List (List UInt8)) (is : List Js) (a1 : Option Addr) (c1 : Nat) (a2 : Option Addr) (c2 : Nat) (S : Nat → Prop) (w : World) (h : NsF w S a1 ns) (hS : ∀ k, S k → k < w.heap.size) (hnc : ns.length ≤ c1) (hz : ∀ s ∈ ns, s.length ≤ 100000) (ht : t.length ≤ 100000) (hnl : ns.length ≤ 100000) (hil : is.length ≤ 100000) :
    Calls Tryz.prog 61 #[.agg #[.int .i64 k, .int .i64 n, .string (str t), .slice a1 ns.length c1, .slice a2 is.length c2]] w fun e w' => e = .returned (.bool (wfB (.mk k n t ns is))) ∧ Hid (Below w.heap.size w w') := by
  have fin : ∀ (a b : Bool), a = b → Calls Tryz.prog 61 #[.agg #[.int .i64 k, .int .i64 n, .string (str t), .slice a1 ns.length c1, .slice a2 is.length c2]] w (fun e w' => e = .returned (.bool a) ∧ Hid (Below w.heap.size w w')) → Calls Tryz.prog 61 #[.agg #[.int .i64 k, .int .i64 n, .string (str t), .slice a1 ns.length c1, .slice a2 is.length c2]] w fun e w' => e = .returned (.bool b) ∧ Hid (Below w.heap.size w w') := fun a b e h => by rw [← e]; exact h
  have hC := fun o => hide (rcha_any t (w.alloc o) (by omega))
  have hX : t = [] → decide (chr t = none) = true := fun e => by rw [e]; simp [chr]
  generalize hY : decide (chr t = none) = X at hC hX
  by_cases k0 : k = 0
  · subst k0
    refine fin _ _ ?_ (rmay0 n t a1 a2 _ c1 _ c2 X w (hC _))
    rw [wfB, if_pos rfl, btE, nsE, jsE]
    by_cases e : t = []
    · rw [hX e]; cases decide (ns.length = 0) <;> cases decide (is.length = 0) <;> simp
    · rw [decide_eq_false e]; simp
  by_cases k1 : k = 1
  · subst k1
    refine fin _ _ ?_ (rmay1 n t a1 a2 _ c1 _ c2 X w (hC _))
    rw [wfB, if_neg (by decide), if_pos rfl, btE, nsE, jsE]
    by_cases e : t = []
    · rw [hX e]; cases decide (ns.length = 0) <;> cases decide (is.length = 0) <;> cases (n == 0 || n == 1) <;> simp
    · rw [decide_eq_false e]; simp
  by_cases k2 : k = 2
  · subst k2
    refine fin _ _ ?_ (rmay2 n t a1 a2 _ c1 _ c2 X w (hC _))
    rw [wfB, if_neg (by decide), if_neg (by decide), if_pos rfl, btE, nsE, jsE]
    by_cases e : t = []
    · rw [hX e]; cases decide (ns.length = 0) <;> cases decide (is.length = 0) <;> simp
    · rw [decide_eq_false e]; simp
  by_cases k3 : k = 3
  · subst k3
    refine fin _ _ ?_ (rmay3 n t a1 a2 _ c1 _ c2 X w (hC _))
    rw [wfB, if_neg (by decide), if_neg (by decide), if_neg (by decide), if_pos rfl, hY, nsE, jsE]
    cases decide (ns.length = 0) <;> cases decide (is.length = 0) <;> cases X <;> simp
  by_cases k4 : k = 4
  · subst k4
    refine fin _ _ ?_ (rmay4 n t a1 a2 _ c1 _ c2 X w (hC _))
    rw [wfB, if_neg (by decide), if_neg (by decide), if_neg (by decide), if_neg (by decide), if_pos rfl, btE, nsE]
    by_cases e : t = []
    · rw [hX e]; cases decide (ns.length = 0) <;> simp
    · rw [decide_eq_false e]; simp
  by_cases k5 : k = 5
  · subst k5
    refine fin _ _ ?_ (rmay5 n t ns a1 a2 c1 _ c2 S w h hS hnc hnl hil hz)
    rw [wfB, if_neg (by decide), if_neg (by decide), if_neg (by decide), if_neg (by decide), if_neg (by decide), if_pos rfl, btE]
    rfl
  refine fin _ _ ?_ (rmayo k n t a1 a2 _ c1 _ c2 w (by omega))
  rw [wfB, if_neg k0, if_neg k1, if_neg k2, if_neg k3, if_neg k4, if_neg k5]
#print axioms rmay_any
end Go.Proofs.YtbnbngmnoffmkaaGreatDoor
end
