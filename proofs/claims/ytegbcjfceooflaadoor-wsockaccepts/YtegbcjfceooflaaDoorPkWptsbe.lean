/-
  wsock: Accept at one key.
-/
import Derived.Test.YtegbcjfceooflaaDoorPkWptsbd
import Derived.Lib.ConvBytes
section
set_option linter.unusedVariables false
set_option maxRecDepth 1000000
namespace Go.Proofs.YtegbcjfceooflaaDoor
open Go.RowKit

/-- A text's bytes in a new block: the world behind, the new row's capacity. -/
theorem to_bytesk : ∃ (V : List UInt8 → World → World) (G : List UInt8 → World → Nat), (∀ l wx, (convert 9 23 (.string (str l))).run Tryd.prog wx = .ok (.slice (some ⟨wx.heap.size, 0, none⟩) l.length (G l wx)) (V l wx)) ∧ (∀ l wx, Below wx.heap.size wx (V l wx)) ∧ (∀ l wx, l ≠ [] → l.length ≤ 1000 → Bs (V l wx) (some ⟨wx.heap.size, 0, none⟩) (G l wx) l) := by
  refine ⟨fun l wx => Lib.bytesWorld wx 5 (str l), fun l wx => grownCap wx (str l).size 0 5, fun l wx => ?_, fun l wx => ?_, fun l wx hne hl => ?_⟩
  · have := Lib.run_convert_string_bytes (P := Tryd.prog) wx 9 23 5 (str l) Tryd.underlying9 Tryd.underlying23 Tryd.underlying5
    rw [this, str_size]
    show _ = Result.ok (Value.slice _ _ (grownCap wx (str l).size 0 5)) _
    rw [str_size]
  · show Below wx.heap.size wx (Lib.bytesWorld wx 5 (str l))
    exact ⟨rfl, rfl, rfl, by rw [Lib.bytesWorld_size]; omega, fun k hk => Lib.bytesWorld_at_old wx _ _ k hk⟩
  · refine ⟨?_, ?_, ?_, fun h => by cases h⟩
    · intro hne
      refine ⟨wx.heap.size, 0, rfl, fun i hi => ?_⟩
      rw [Nat.zero_add, Lib.bytesWorld_cell wx _ (str l) i (by rw [str_size]; exact hi)]
      rfl
    · show l.length ≤ grownCap wx (str l).size 0 5
      rw [str_size]
      exact grownCap_ge wx l.length 0 5
    · show grownCap wx (str l).size 0 5 ≤ maxLen
      rw [str_size]
      exact grownCap_le_maxLen wx l.length 0 5 (by unfold maxLen; omega)
#print axioms to_bytesk
theorem cat60 : (str k24) ++ (⟨#[50, 53, 56, 69, 65, 70, 65, 53, 45, 69, 57, 49, 52, 45, 52, 55, 68, 65, 45, 57, 53, 67, 65, 45, 67, 53, 65, 66, 48, 68, 67, 56, 53, 66, 49, 49]⟩ : ByteArray) = str k60 := by
  apply ByteArray.ext
  rfl
theorem sha_key : ∃ D : List UInt8, D.length = 20 ∧ b64 D = k28 ∧ ∀ (a : Option Addr) (cap : Nat) (w : World), Bs w a cap k60 → Tb w → Calls Tryd.prog 17 #[.slice a k60.length cap] w fun e w' => e = .returned (.agg (bs D).toArray) ∧ Below w.heap.size w w' :=
  ⟨sha1 k60, sha1_length k60, sha1_key, fun a cap w hB hT => sha1_any a cap k60 w hB (by decide) hT⟩
theorem b64_dig (D : List UInt8) (hl : D.length = 20) (hD : b64 D = k28) (C : Nat) (t : TypeId) (w : World) (h : Cel w C t (bs D)) : Calls Tryd.prog 18 #[.slice (some ⟨C, 0, none⟩) 20 20] w fun e w' => e = .returned (.string (str k28)) ∧ Below w.heap.size w w' := by
  have h := base64_any (some ⟨C, 0, none⟩) 20 D w ⟨h.row, by omega, by unfold maxLen; omega, fun h => by cases h⟩ (by omega)
  rw [hD, hl] at h
  exact h
set_option maxHeartbeats 1000000 in
theorem accept_one (w : World) (hT : Tb w) : Calls Tryd.prog 6 #[.string (str k24)] w fun e w' => e = .returned (.tuple #[.string (str k28), .int .i64 0]) ∧ Hid (Below w.heap.size w w') := by
  have HT := hide hT
  obtain ⟨V, G, hV, hVb, hVr⟩ := to_bytesk
  obtain ⟨D, hDl, hD64, hsha⟩ := sha_key
  have hcat := cat60
  have hV1 := fun wx => hV k60 wx
  have HVB := hide (fun wx => hVb k60 wx)
  have HVR := hide (fun wx => hVr k60 wx (by decide) (by decide))
  have HD := hide hDl
  have HSH := hide hsha
  have HBD := hide (b64_dig D hDl hD64)
  clear hV hVb hVr hT hDl hD64 hsha
  go_enter Tryd.func6, Tryd.ntmps6
  go_wp2_with (first
    | (go_at_call 16; refine (isKey_one _).mono ?_; rintro e w1 ⟨rfl, HB1⟩; have HT1 := hide ((unhide HT).below (unhide HB1) (unhide HT).big))
    | (go_at_call 17; refine (unhide HSH _ _ _ (unhide HVR w1) ((unhide HT1).below (unhide HVB w1) (unhide HT1).big)).mono ?_; rintro e w2 ⟨rfl, hb2⟩; have HB2 := hide (((unhide HB1).trans ((unhide HVB w1).mono (unhide HB1).size)).trans (hb2.mono (Nat.le_trans (unhide HB1).size (unhide HVB w1).size))); clear hb2)
    | (refine wpL_store rfl 50 _ _ rfl _ rfl (bs D) rfl 50 (bs (noughts 20)) (Cel.newAt' w2 _ _ w2.heap.size _ rfl rfl) (by rw [bs_length, bs_length, HD.out]; rfl) (by rw [bs_length, HD.out]; kernel_rfl) (bs_one' _) ?_; intro w3 hC3 hg3; have HC3 := hide hC3; have HB3 := hide ((unhide HB2).trans (cg_to_below (cg_trans (cg_alloc w2 _ (some w2.heap.size)) hg3) (unhide HB2).size (unhide HB2).size)); clear hC3 hg3)
    | (go_at_call 18; refine (unhide HBD _ _ _ (unhide HC3)).mono ?_; rintro e w4 ⟨rfl, hb4⟩; have HB4 := hide ((unhide HB3).trans (hb4.mono (unhide HB3).size)); clear hb4))
  exact bodyPost_ret (v := .tuple #[.string (str k28), .int .i64 0]) (by simp [results, Tryd.results6, go_sem]) rfl ⟨rfl, HB4⟩
#print axioms accept_one
end Go.Proofs.YtegbcjfceooflaaDoor
end
