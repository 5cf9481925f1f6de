import Derived.Test.YtdgdfpgekccibabCB
import Derived.Deep.RegionWith
import Derived.Deep.RegionHeld3
/-! clocks: what a kind of step does with clocks. -/
namespace Go.Proofs.Ytdgdfpgekccibab
open Go Go.RowKit
/-- What a step of a kind makes of its thing's marks and of its client's clock. -/
def passM (k : Nat) (m : Nat → Clk) (x : Clk) : Nat → Clk :=
  if k = 2 then upd m 0 (joinC (m 0) x) else if k = 4 then upd m 1 (joinC (m 1) x) else if k = 6 then upd m 2 x else if k = 7 then upd m 2 (joinC x (m 2)) else m
def passC (k : Nat) (m : Nat → Clk) (x : Clk) : Clk :=
  if k = 1 then joinC (joinC x (m 0)) (m 1) else if k = 3 then joinC x (m 0) else if k = 5 then joinC x (m 2) else if k = 7 then joinC x (m 2) else x
theorem ck_one (c : Clk) : ∀ v ∈ ck c, v.oneCell' = true := fun v hv => by
  simp only [ck, List.mem_map] at hv
  obtain ⟨i, _, rfl⟩ := hv
  rfl
def PassPost (k : Nat) (bm bC c : Nat) (tm tc : TypeId) (m f : Nat → Clk) (w : World) (e : Ending) (w' : World) : Prop :=
  e = .returned (.tuple #[]) ∧ Grid w' bm 3 tm (passM k m (f c)) ∧ Grid w' bC 16 tc (upd f c (passC k m (f c))) ∧ Fr (fun i => i = bm ∨ i = bC) w w'
theorem upd_id {α : Type} (f : Nat → α) (c : Nat) : upd f c (f c) = f := by
  funext i
  unfold upd
  split
  · next h => rw [h]
  · rfl
theorem upd_upd {α : Type} (f : Nat → α) (c : Nat) (a b : α) : upd (upd f c a) c b = upd f c b := by
  funext i
  unfold upd
  split <;> rfl
set_option maxHeartbeats 1000000 in
set_option maxRecDepth 100000 in
theorem lock_any (bm bC c : Nat) (tm tc : TypeId) (m f : Nat → Clk) (w : World) (hM : Grid w bm 3 tm m) (hC : Grid w bC 16 tc f) (hne : bm ≠ bC) (hc : c < 16) :
    Calls Try.prog 35 #[.pointer (some ⟨bm, 0, none⟩), .pointer (some ⟨bC, c * 16, none⟩)] w (PassPost 1 bm bC c tm tc m f w) := by
  have r0 : w.rangeAt bm 0 (ck (m 0)) := by simpa using hM.range (c := 0) (by decide)
  have hj := hid_of (join_any bC 16 c tc f (m 0) w hC hc)
  go_enter Try.func35, Try.ntmps35
  go_wp2_with (refine wpList_load_mid rfl 49 _ rfl bm 0 rfl (ck (m 0)) _ r0 clk_u rfl (by rw [clk_i, ck_len]) ?_)
  refine hj.out.mono ?_
  rintro e w1 ⟨rfl, hC1, hF1⟩
  clear r0 hj hC
  have hM1 := hM.fr hF1 hne
  have r1 : w1.rangeAt bm 16 (ck (m 1)) := by simpa using hM1.range (c := 1) (by decide)
  have hj := hid_of (join_any bC 16 c tc _ (m 1) w1 hC1 hc)
  rw [upd_same] at hj
  clear hC1 hM
  go_wp2_with (refine wpList_load_mid rfl 49 _ rfl bm 16 rfl (ck (m 1)) _ r1 clk_u rfl (by rw [clk_i, ck_len]) ?_)
  refine hj.out.mono ?_
  rintro e w2 ⟨rfl, hC2, hF2⟩
  go_wp2_with fail
  go_end0
  rw [upd_upd] at hC2
  exact ⟨rfl, (hM1.fr hF2 hne), hC2, (hF1.trans hF2).mono (fun i h => .inl (.inr h))⟩
set_option maxHeartbeats 1000000 in
set_option maxRecDepth 100000 in
theorem join_at {f : Nat} {c1 bm bC c : Nat} {tm tc : TypeId} {m g : Nat → Clk} {w : World} (hM : Grid w bm 3 tm m) (hC : Grid w bC 16 tc g) (h1 : c1 < 3) (hne : bm ≠ bC) (hf : f = c1 * 16) :
    Calls Try.prog 32 #[.pointer (some ⟨bm, f, none⟩), .agg (ck (g c)).toArray] w fun e w' => e = .returned (.tuple #[]) ∧ Grid w' bm 3 tm (upd m c1 (joinC (m c1) (g c))) ∧ Grid w' bC 16 tc (upd g c (g c)) ∧ Fr (fun i => i = bm ∨ i = bC) w w' := by
  subst hf
  refine (join_any bm 3 c1 tm m (g c) w hM h1).mono ?_
  rintro e w1 ⟨rfl, h1, h2⟩
  exact ⟨rfl, h1, by rw [upd_id]; exact hC.fr h2 (fun e => hne e.symm), h2.mono (fun i h => .inl (.inl h))⟩
set_option maxHeartbeats 1000000 in
set_option maxRecDepth 100000 in
theorem unlock_any (bm bC c : Nat) (tm tc : TypeId) (m f : Nat → Clk) (w : World) (hM : Grid w bm 3 tm m) (hC : Grid w bC 16 tc f) (hne : bm ≠ bC) (hc : c < 16) :
    Calls Try.prog 36 #[.pointer (some ⟨bm, 0, none⟩), .pointer (some ⟨bC, c * 16, none⟩)] w (PassPost 2 bm bC c tm tc m f w) := by
  have r0 : w.rangeAt bC (c * 16) (ck (f c)) := hC.range hc
  have q1 := clk_u
  have q2 : (Try.prog.info? 49).map (·.size) = some (ck (f c)).length := by rw [clk_i, ck_len]
  have q3 := ck_len (f c)
  have q4 : ∀ v ∈ ck (f c), v.oneCell' = true := ck_one (f c)
  have hj := hid_of (fun w' (h1 : Grid w' bm 3 tm m) (h2 : Grid w' bC 16 tc f) => join_at (f := 0) (c1 := 0) (c := c) h1 h2 (by decide) hne rfl)
  have hM' := hid_of hM
  have hC' := hid_of hC
  clear hM hC
  go_enter Try.func36, Try.ntmps36
  go_region_held3 (fun w' => w'.rangeAt bC (c * 16) (ck (f c))) (go_keep_ranges) ((go_at_call 32; refine (hj.out w.drew (hM'.out.keep rfl) (hC'.out.keep rfl)).mono ?_; rintro e w1 ⟨rfl, h1, h2, h3⟩; have r1 := h2.range hc; rw [upd_same] at r1))
  all_goals
    go_wp2_with fail
    go_end0
    exact ⟨rfl, h1, h2, (Fr.refl _ w).drew.trans h3⟩
set_option maxHeartbeats 1000000 in
set_option maxRecDepth 100000 in
theorem runlock_any (bm bC c : Nat) (tm tc : TypeId) (m f : Nat → Clk) (w : World) (hM : Grid w bm 3 tm m) (hC : Grid w bC 16 tc f) (hne : bm ≠ bC) (hc : c < 16) :
    Calls Try.prog 38 #[.pointer (some ⟨bm, 0, none⟩), .pointer (some ⟨bC, c * 16, none⟩)] w (PassPost 4 bm bC c tm tc m f w) := by
  have r0 : w.rangeAt bC (c * 16) (ck (f c)) := hC.range hc
  have q1 := clk_u
  have q2 : (Try.prog.info? 49).map (·.size) = some (ck (f c)).length := by rw [clk_i, ck_len]
  have q3 := ck_len (f c)
  have q4 : ∀ v ∈ ck (f c), v.oneCell' = true := ck_one (f c)
  have hj := hid_of (fun w' (h1 : Grid w' bm 3 tm m) (h2 : Grid w' bC 16 tc f) => join_at (f := 16) (c1 := 1) (c := c) h1 h2 (by decide) hne rfl)
  have hM' := hid_of hM
  have hC' := hid_of hC
  clear hM hC
  go_enter Try.func38, Try.ntmps38
  go_region_held3 (fun w' => w'.rangeAt bC (c * 16) (ck (f c))) (go_keep_ranges) ((go_at_call 32; refine (hj.out w.drew (hM'.out.keep rfl) (hC'.out.keep rfl)).mono ?_; rintro e w1 ⟨rfl, h1, h2, h3⟩; have r1 := h2.range hc; rw [upd_same] at r1))
  all_goals
    go_wp2_with fail
    go_end0
    exact ⟨rfl, h1, h2, (Fr.refl _ w).drew.trans h3⟩
set_option maxHeartbeats 1000000 in
set_option maxRecDepth 100000 in
theorem rlock_any (bm bC c : Nat) (tm tc : TypeId) (m f : Nat → Clk) (w : World) (hM : Grid w bm 3 tm m) (hC : Grid w bC 16 tc f) (hne : bm ≠ bC) (hc : c < 16) :
    Calls Try.prog 37 #[.pointer (some ⟨bm, 0, none⟩), .pointer (some ⟨bC, c * 16, none⟩)] w (PassPost 3 bm bC c tm tc m f w) := by
  have r0 : w.rangeAt bm 0 (ck (m 0)) := by simpa using hM.range (c := 0) (by decide)
  have hj := hid_of (join_any bC 16 c tc f (m 0) w hC hc)
  go_enter Try.func37, Try.ntmps37
  go_wp2_with (refine wpList_load_mid rfl 49 _ rfl bm 0 rfl (ck (m 0)) _ r0 clk_u rfl (by rw [clk_i, ck_len]) ?_)
  refine hj.out.mono ?_
  rintro e w1 ⟨rfl, hC1, hF1⟩
  clear r0 hj hC
  have hM1 := hM.fr hF1 hne
  go_wp2_with fail
  go_end0
  exact ⟨rfl, hM1, hC1, hF1.mono (fun i h => .inl (.inr h))⟩
set_option maxHeartbeats 1000000 in
set_option maxRecDepth 100000 in
theorem load_any (bm bC c : Nat) (tm tc : TypeId) (m f : Nat → Clk) (w : World) (hM : Grid w bm 3 tm m) (hC : Grid w bC 16 tc f) (hne : bm ≠ bC) (hc : c < 16) :
    Calls Try.prog 39 #[.pointer (some ⟨bm, 0, none⟩), .pointer (some ⟨bC, c * 16, none⟩)] w (PassPost 5 bm bC c tm tc m f w) := by
  have r0 : w.rangeAt bm 32 (ck (m 2)) := by simpa using hM.range (c := 2) (by decide)
  have hj := hid_of (join_any bC 16 c tc f (m 2) w hC hc)
  go_enter Try.func39, Try.ntmps39
  go_wp2_with (refine wpList_load_mid rfl 49 _ rfl bm 32 rfl (ck (m 2)) _ r0 clk_u rfl (by rw [clk_i, ck_len]) ?_)
  refine hj.out.mono ?_
  rintro e w1 ⟨rfl, hC1, hF1⟩
  clear r0 hj hC
  have hM1 := hM.fr hF1 hne
  go_wp2_with fail
  go_end0
  exact ⟨rfl, hM1, hC1, hF1.mono (fun i h => .inl (.inr h))⟩
set_option maxHeartbeats 1000000 in
set_option maxRecDepth 100000 in
theorem store_any (bm bC c : Nat) (tm tc : TypeId) (m f : Nat → Clk) (w : World) (hM : Grid w bm 3 tm m) (hC : Grid w bC 16 tc f) (hne : bm ≠ bC) (hc : c < 16) :
    Calls Try.prog 40 #[.pointer (some ⟨bm, 0, none⟩), .pointer (some ⟨bC, c * 16, none⟩)] w (PassPost 6 bm bC c tm tc m f w) := by
  have r0 := hC.range hc
  have t0 : w.there bm 32 (ck (f c)).toArray.size := by simpa [ck_len] using hM.there (c := 2) (by decide)
  have o1 := all_oneCell_toArray (ck_one (f c))
  go_enter Try.func40, Try.ntmps40
  go_wp2_with (first | (refine wpList_load_mid rfl 49 _ rfl bC (c * 16) rfl (ck (f c)) _ r0 clk_u rfl (by rw [clk_i, ck_len]) ?_) | (refine wpList_store_mid rfl 49 _ _ rfl bm 32 _ rfl rfl t0 (by rw [clk_i]; simp [ck_len]) o1 ?_))
  go_end0
  exact ⟨rfl, hM.sets (c := 2) (by decide) (f c), by rw [show passC 6 m (f c) = f c from rfl, upd_id]; exact hC.keep (setCells_heap _ _ _ _ _ (fun e => hne e.symm)), (Fr.refl _ w).sets _ _ _ (.inl (.inl rfl))⟩
set_option maxHeartbeats 1000000 in
set_option maxRecDepth 100000 in
theorem add_any (bm bC c : Nat) (tm tc : TypeId) (m f : Nat → Clk) (w : World) (hM : Grid w bm 3 tm m) (hC : Grid w bC 16 tc f) (hne : bm ≠ bC) (hc : c < 16) :
    Calls Try.prog 41 #[.pointer (some ⟨bm, 0, none⟩), .pointer (some ⟨bC, c * 16, none⟩)] w (PassPost 7 bm bC c tm tc m f w) := by
  have r0 : w.rangeAt bm 32 (ck (m 2)) := by simpa using hM.range (c := 2) (by decide)
  have hj := hid_of (join_any bC 16 c tc f (m 2) w hC hc)
  go_enter Try.func41, Try.ntmps41
  go_wp2_with (refine wpList_load_mid rfl 49 _ rfl bm 32 rfl (ck (m 2)) _ r0 clk_u rfl (by rw [clk_i, ck_len]) ?_)
  refine hj.out.mono ?_
  rintro e w1 ⟨rfl, hC1, hF1⟩
  clear r0 hj hC
  have hM1 := hM.fr hF1 hne
  have r1 := hC1.range hc
  rw [upd_same] at r1
  have t1 : w1.there bm 32 (ck (joinC (f c) (m 2))).toArray.size := by simpa [ck_len] using hM1.there (c := 2) (by decide)
  have o1 := all_oneCell_toArray (ck_one (joinC (f c) (m 2)))
  go_wp2_with (first | (refine wpList_load_mid rfl 49 _ rfl bC (c * 16) rfl (ck (joinC (f c) (m 2))) _ r1 clk_u rfl (by rw [clk_i, ck_len]) ?_) | (refine wpList_store_mid rfl 49 _ _ rfl bm 32 _ rfl rfl t1 (by rw [clk_i]; simp [ck_len]) o1 ?_))
  go_end0
  exact ⟨rfl, hM1.sets (c := 2) (by decide) (joinC (f c) (m 2)), hC1.keep (setCells_heap _ _ _ _ _ (fun e => hne e.symm)), (hF1.mono (fun i h => .inl (.inr h))).sets _ _ _ (.inl (.inl rfl))⟩
end Go.Proofs.Ytdgdfpgekccibab
