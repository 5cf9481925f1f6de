import Derived.Test.YtlkomknjgfjnlaaGreatDoorPB
/-! The document's reader of texts: a value, behind a fault. -/
namespace Go.Proofs.YtlkomknjgfjnlaaGreatDoor.Tree
open Go Go.RowKit

set_option maxHeartbeats 2000000 in
set_option maxRecDepth 100000 in
theorem value_dead (r : Nat) (T : ByteArray) (d q pl e : Int) (w : World) (h : RT w r T q e pl) (he : e ≠ 0) :
    Calls Tryz.prog 14 #[.pointer (some ⟨r, 0, none⟩), .int .i64 d] w fun x w' => x = .returned (.agg #[.int .i64 0, .int .i64 0, .string ⟨#[]⟩, .slice none 0 0, .slice none 0 0]) ∧ RT w' r T q e pl ∧ Fr (· = r) w w' := by
  have hrl := h.lt
  have n0 := heap_alloc_new w (.cells #[.int .i64 0, .int .i64 0, .string ⟨#[]⟩, .slice none 0 0, .slice none 0 0] 25)
  have hF0 : Fr (· = r) w (w.alloc (.cells #[.int .i64 0, .int .i64 0, .string ⟨#[]⟩, .slice none 0 0, .slice none 0 0] 25)) := (Fr.refl _ w).alloc _
  have hR0 : RT (w.alloc (.cells #[.int .i64 0, .int .i64 0, .string ⟨#[]⟩, .slice none 0 0, .slice none 0 0] 25)) r T q e pl := h.keep (S := fun _ => False) ((Fr.refl _ w).alloc _) (fun e => e)
  go_enter Tryz.func14, Tryz.ntmps14
  go_upto_region 1 with fail
  generalize w.alloc (.cells #[.int .i64 0, .int .i64 0, .string ⟨#[]⟩, .slice none 0 0, .slice none 0 0] 25) = W at n0 hF0 hR0 ⊢
  have hn := hid_e (next_dead r T q pl e W hR0 he)
  go_wp2_with fail
  go_fit hn.out
  rintro e1 w1 ⟨rfl, hw⟩
  replace hw := hw.symm
  subst hw
  obtain ⟨v0, v1, v2, v3, v4, vf⟩ := row_cells n0
  have vf0 := vf 0; have vf1 := vf 1; have vf2 := vf 2; have vf3 := vf 3; have vf4 := vf 4
  clear vf
  go_wp2_with fail
  have hr5 := put5_cells n0 (.int .i64 0) (.int .i64 0) (.string ⟨#[]⟩) (.slice none 0 0) (.slice none 0 0)
  have r0 := hr5 0; have r1 := hr5 1; have r2 := hr5 2; have r3 := hr5 3; have r4 := hr5 4
  clear hr5
  refine bodyPost_ret (v := .agg #[.int .i64 0, .int .i64 0, .string ⟨#[]⟩, .slice none 0 0, .slice none 0 0]) (by simp [results, Tryz.results14, go_sem, r0, r1, r2, r3, r4]) rfl ?_
  exact ⟨rfl, (put5_far _ _ _ _ _ (by omega)).trans hR0, hF0.put5 (.inr (Nat.le_refl _)) _ _ _ _ _⟩
end Go.Proofs.YtlkomknjgfjnlaaGreatDoor.Tree
