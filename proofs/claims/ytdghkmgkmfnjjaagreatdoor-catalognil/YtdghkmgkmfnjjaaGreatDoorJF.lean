import Derived.Test.YtdghkmgkmfnjjaaGreatDoorJE
/-! The turn of an item. -/
namespace Go.Proofs.YtdghkmgkmfnjjaaGreatDoor
open Go Go.RowKit

theorem AL : (Tryz.prog.info? 103).map (fun i => (i.zero, i.size, i.bytes)) = some (some (.slice none 0 0), 1, 24) := by kernel_rfl
theorem ch_turns {w : World} {cb xb : Nat} {cv : Value} {mt mc n : Nat} {D : DataW Unit} (h : ChAt w cb xb cv mt mc) (h' : TurnsAt w mt n D) : cb ≠ mt := by
  rintro rfl
  obtain ⟨es, cl, hm, r⟩ := h'
  unfold ChAt at h
  rw [h] at hm
  cases hm
theorem put_len (k : Nat) (hk : k ≤ 1000) : plainElem (H := Unit) Tryz.prog 3 (.int .i64 k) = some (.lit (.int .i64 k), []) := plainElem_int Tryz.underlying3 (by simp [Lit.wf, IntKind.min, IntKind.max, IntKind.bits, IntKind.signed]; omega)
theorem own_type {W : World} {lo : Nat} {e : TypeId} {size : Nat} {v : Value} {n : Nat} {xs : List Value} {g : Nat} (h : W.ownsRow lo e size v n xs) (hg : v.ownBlock = some g) : ∃ cur r, W.heap[g]? = some (.cells cur e r) := by
  rcases h.2 with ⟨rfl, _⟩ | ⟨g', cap, cur, rfl, hx, hh, _⟩
  · simp [Value.ownBlock] at hg
  · obtain rfl : g' = g := by simpa [Value.ownBlock] using hg
    exact ⟨_, _, hh⟩
/-- What a turn leaves: all below B, and all blocks of cells but the change's own. -/
structure LFr (B : Nat) (w w' : World) : Prop where
  below : Below B w w'
  cold : ∀ (j : Nat) (cur : Array Value) (t : TypeId) (f : Nat × Nat), w.heap[j]? = some (.cells cur t f) → t ≠ 199 → t ≠ 103 → w'.heap[j]? = some (.cells cur t f)
theorem LFr.of_below {B : Nat} {w w' : World} (h : Below w.heap.size w w') (hB : B ≤ w.heap.size) : LFr B w w' := ⟨h.mono hB, fun _ _ _ _ hj _ _ => block_keep hj h⟩
theorem LFr.trans {B : Nat} {x y z : World} (h : LFr B x y) (k : LFr B y z) : LFr B x z := ⟨h.below.trans k.below, fun j cur t f hj h1 h2 => k.cold j cur t f (h.cold j cur t f hj h1 h2) h1 h2⟩
theorem LFr.row {B lo : Nat} {w w' : World} {e : TypeId} {size : Nat} {v : Value} {n : Nat} {xs : List Value} (h : LFr B w w') (hr : w.ownsRow lo e size v n xs) (h1 : e ≠ 199) (h2 : e ≠ 103) : w'.ownsRow lo e size v n xs := ownsRow_keep hr (fun g hg => by
  obtain ⟨cur, r, hh⟩ := own_type hr hg
  rw [hh]; exact h.cold _ _ _ _ hh h1 h2)
theorem LFr.ent {B : Nat} {w w' : World} {eb : Nat} {x : Int} {key : ByteArray} (h : LFr B w w') (hE : EntAt w eb x key) : EntAt w' eb x key := h.cold _ _ _ _ hE (by decide) (by decide)
theorem LFr.ix {B : Nat} {w w' : World} {xb : Nat} {nm pt : ByteArray} {un : Bool} {pv ev kv : Value} (h : LFr B w w') (hX : IxAt w xb nm pt un pv ev kv) : IxAt w' xb nm pt un pv ev kv := h.cold _ _ _ _ hX (by decide) (by decide)
/-- A row of maps is none of cells. -/
theorem turns_ne {w : World} {mt n : Nat} {D : DataW Unit} (h : TurnsAt w mt n D) {j : Nat} {cur : Array Value} {t : TypeId} {f : Nat × Nat} (hj : w.heap[j]? = some (.cells cur t f)) : j ≠ mt := by
  rintro rfl
  obtain ⟨es, cl, hm, r⟩ := h
  rw [hj] at hm
  cases hm
theorem fr_map {B : Nat} {w w' : World} {mt n : Nat} {D : DataW Unit} (hM : TurnsAt w mt n D) (hg : w.grownBy w' (some mt)) (hB : B ≤ mt) : LFr B w w' := by
  have hl := World.ownsMap.lt hM
  refine ⟨grown_below hg (by omega) (fun g h => by cases h; exact hB), fun j cur t f hj _ _ => ?_⟩
  exact (hg.block _ (Array.getElem?_eq_some_iff.1 hj).1 (fun e => turns_ne hM hj (by cases e; rfl))).trans hj
theorem fr_row {B : Nat} {w w' : World} {v : Value} {n size : Nat} {xs : List Value} (hR : w.ownsRow B 103 size v n xs) (hg : w.grownBy w' v.ownBlock) (hB : B ≤ w.heap.size) : LFr B w w' := by
  refine ⟨grown_below hg hB (fun g h => (ownsRow_ge hR h).1), fun j cur t f hj _ h2 => ?_⟩
  refine (hg.block _ (Array.getElem?_eq_some_iff.1 hj).1 (fun e => ?_)).trans hj
  obtain ⟨cur', r, hh⟩ := own_type hR e.symm
  rw [hj] at hh
  cases hh
  exact h2 rfl
theorem fr_set {B : Nat} {w : World} {cb xb : Nat} {cv : Value} {mt mc : Nat} (hC : ChAt w cb xb cv mt mc) (hB : B ≤ cb) (v : Value) : LFr B w (w.setCell ⟨cb, 2, none⟩ v) := by
  refine ⟨⟨by simp [World.setCell], by simp [World.setCell], by simp [World.setCell], by simp [World.setCell], fun k hk => Below.heap_setCell _ _ _ _ (by simp; omega)⟩, fun j cur t f hj h1 _ => ?_⟩
  rw [Below.heap_setCell _ _ _ _ (fun e => ?_)]
  · exact hj
  · unfold ChAt at hC
    rw [e, hC] at hj
    cases hj
    exact h1 rfl
theorem ch_set {w : World} {cb xb : Nat} {cv : Value} {mt mc : Nat} (hC : ChAt w cb xb cv mt mc) (v : Value) : ChAt (w.setCell ⟨cb, 2, none⟩ v) cb xb v mt mc := by
  unfold ChAt at *
  simp [World.setCell, Array.getElem?_modify, hC]
theorem ch_row {w w' : World} {B cb xb : Nat} {cv : Value} {mt mc : Nat} {v : Value} {n size : Nat} {xs : List Value} (hC : ChAt w cb xb cv mt mc) (hR : w.ownsRow B 103 size v n xs) (hg : w.grownBy w' v.ownBlock) : ChAt w' cb xb cv mt mc := by
  unfold ChAt at *
  refine (hg.block _ (Array.getElem?_eq_some_iff.1 hC).1 (fun e => ?_)).trans hC
  obtain ⟨cur', r, hh⟩ := own_type hR e.symm
  rw [hC] at hh
  cases hh
theorem ch_own {w : World} {B cb xb : Nat} {cv : Value} {mt mc : Nat} {v : Value} {n size : Nat} {xs : List Value} (hC : ChAt w cb xb cv mt mc) (hR : w.ownsRow B 103 size v n xs) {q : Nat} (hq : v.ownBlock = some q) : q ≠ cb := by
  rintro rfl
  obtain ⟨cur', r, hh⟩ := own_type hR hq
  unfold ChAt at hC
  rw [hC] at hh
  cases hh
theorem map_row {w w' : World} {B mt m : Nat} {D : DataW Unit} {v : Value} {n size : Nat} {xs : List Value} (hM : TurnsAt w mt m D) (hR : w.ownsRow B 103 size v n xs) (hg : w.grownBy w' v.ownBlock) : TurnsAt w' mt m D := World.ownsMap.kept hM hg (fun e => by
  obtain ⟨cur', r, hh⟩ := own_type hR e.symm
  exact turns_ne hM hh rfl)
/-- What a turn makes. -/
def LayPost (B : Nat) (key : ByteArray) (x : Int) (cb xb k : Nat) (xs : List Value) (mt mc n : Nat) (D : DataW Unit) (w : World) (e : Ending) (w' : World) : Prop := e = .returned (.tuple #[.string ⟨#[]⟩, .bool false]) ∧ LFr B w w' ∧
  ∃ gc cc g cap eb, ChAt w' cb xb (.slice (some ⟨gc, 0, none⟩) (k + 1) cc) mt mc ∧ TurnsAt w' mt (n + 1) (D.put (kl key) (.lit (.int .i64 k))) ∧ w'.ownsRow B 103 1 (.slice (some ⟨gc, 0, none⟩) (k + 1) cc) (k + 1) (xs ++ [.slice (some ⟨g, 0, none⟩) 1 cap]) ∧ w'.ownsRow w.heap.size 128 1 (.slice (some ⟨g, 0, none⟩) 1 cap) 1 [.pointer (some ⟨eb, 0, none⟩)] ∧ EntAt w' eb x key
set_option maxHeartbeats 2000000 in
set_option maxRecDepth 100000 in
theorem lay1 (gk : Nat) (key : ByteArray) (hk : key.size ≤ maxLen) (x : Int) (bn cn bi ci bp cp : Nat) (cb xb : Nat) (ca : Option Addr) (k cc : Nat) (xs : List Value) (hxs : xs.length = k) (mt mc n B : Nat) (D : DataW Unit) (nm pt : ByteArray) (ev : Value) (w : World)
    (hC : ChAt w cb xb (.slice ca k cc) mt mc) (hX : IxAt w xb nm pt false (.slice (some ⟨bp, 0, none⟩) 1 cp) ev (.slice (some ⟨gk, 0, none⟩) 0 0)) (hM : TurnsAt w mt n D) (hD : Maps.has D (kl key) = false) (hn : n ≤ 1000) (hkk : k ≤ 1000)
    (hR : w.ownsRow B 103 1 (.slice ca k cc) k xs) (hB : B ≤ w.heap.size) (hBc : B ≤ cb) (hBm : B ≤ mt)
    (h : w.cell? ⟨bn, 0, none⟩ = some (.string nameA)) (hI : NumAt w bi 0 x) (hp : w.cell? ⟨bp, 0, none⟩ = some (.string nameA)) :
    Calls Tryz.prog 88 #[.pointer (some ⟨cb, 0, none⟩), itemV key bn cn bi ci] w (LayPost B key x cb xb k xs mt mc n D w) := by
  have HB : Below w.heap.size w (w.alloc (itemC key bn cn bi ci)) := (Below.refl _ w).alloc (Nat.le_refl _) _
  have n0 := heap_alloc_new w (itemC key bn cn bi ci)
  have hto := hid_of (takeOut_not gk key hk cb xb (.slice ca k cc) mt mc n D nm pt false (.slice (some ⟨bp, 0, none⟩) 1 cp) ev _ (hC.keep HB) (hX.keep HB) (hM.keep HB) hD)
  obtain ⟨i5, hi5, hz0, hz1, hz2⟩ := info_parts AL
  unfold itemC at *
  unfold itemV
  go_enter Tryz.func88, Tryz.ntmps88
  go_wp2_with fail
  generalize w.alloc (.cells #[.string key, .int .i64 0, .int .i64 6, .int .i64 0, .string ⟨#[]⟩, .slice (some ⟨bn, 0, none⟩) 1 cn, .slice (some ⟨bi, 0, none⟩) 1 ci] 58) = X0 at HB n0 hto
  refine hto.out.mono ?_
  rintro e X1 ⟨rfl, hb1⟩
  clear hto
  have n1 := block_keep n0 hb1
  replace HB := HB.trans (hb1.mono HB.size)
  clear hb1 n0
  have hen := hid_of (fun X2 (hb : Below X1.heap.size X1 X2) => entries1 key x bn cn bi ci bp cp X2 (stay hb (stay HB h)) ((hI.keep HB).keep hb) (stay hb (stay HB hp)))
  unfold itemV at hen
  obtain ⟨c0, -, -, -, -, -⟩ := (hC.keep HB).cells
  obtain ⟨-, -, -, y3, -, -⟩ := (hX.keep HB).cells
  obtain ⟨k0, k1, k2, k3, k4, k5, k6⟩ := item_cells n1
  replace n1 := hid_of n1
  replace hC := hid_of hC
  replace hX := hid_of hX
  replace hM := hid_of hM
  replace hR := hid_of hR
  replace HB := hid_of HB
  clear h hI hp
  go_wp2_with fail
  go_region_held3 (fun W => W.cell? ⟨w.heap.size, 0, none⟩ = some (.string key) ∧ W.cell? ⟨w.heap.size, 1, none⟩ = some (.int .i64 0) ∧ W.cell? ⟨w.heap.size, 2, none⟩ = some (.int .i64 6) ∧ W.cell? ⟨w.heap.size, 3, none⟩ = some (.int .i64 0) ∧ W.cell? ⟨w.heap.size, 4, none⟩ = some (.string ⟨#[]⟩) ∧ W.cell? ⟨w.heap.size, 5, none⟩ = some (.slice (some ⟨bn, 0, none⟩) 1 cn) ∧ W.cell? ⟨w.heap.size, 6, none⟩ = some (.slice (some ⟨bi, 0, none⟩) 1 ci) ∧ W.cell? ⟨cb, 0, none⟩ = some (.pointer (some ⟨xb, 0, none⟩)) ∧ W.cell? ⟨xb, 3, none⟩ = some (.slice (some ⟨bp, 0, none⟩) 1 cp)) (go_keep) ((go_at_call 129; refine (hen.out _ (below_drewN (Below.refl _ _) 1)).mono ?_; rintro e X2 ⟨hb2', g, cap, eb, rfl, hO, hE⟩; have hb2 : Below X1.heap.size X1 X2 := (below_drewN (Below.refl _ X1) 1).trans hb2'; clear hb2'; replace hO := hid_of hO; replace hE := hid_of hE; have j0 := stay hb2 k0; have j1 := stay hb2 k1; have j2 := stay hb2 k2; have j3 := stay hb2 k3; have j4 := stay hb2 k4; have j5 := stay hb2 k5; have j6 := stay hb2 k6; have j7 := stay hb2 c0; have j8 := stay hb2 y3; replace hb2 := hid_of hb2))
  have F2 : LFr B w X2 := LFr.of_below (HB.out.trans (hb2.out.mono HB.out.size)) hB
  have hq2 := HB.out.trans (hb2.out.mono HB.out.size)
  have hC2 := hC.out.keep hq2
  have hX2 := hX.out.keep hq2
  have hM2 := hM.out.keep hq2
  have hR2 := ownsRow_below hR.out hq2
  obtain ⟨X3, hup, hM3, hg3⟩ := World.ownsMap.update (w := X2.drew) hM2 (Maps.string_keyed Tryz.underlying9) Tryz.underlying196 (by unfold maxLen; omega) (key_of key hk) (put_len k hkk)
  have F3 : LFr B X2 X3 := (LFr.of_below (below_drew (Below.refl _ X2)) (Nat.le_trans hB hq2.size)).trans (fr_map (w := X2.drew) hM2 hg3 hBm)
  have hC3 : ChAt X3 cb xb (.slice ca k cc) mt mc := (hg3.block _ (Array.getElem?_eq_some_iff.1 hC2).1 (fun e => ch_turns hC2 hM2 (by cases e; rfl))).trans hC2
  have hX3 := F3.ix hX2
  have hE3 := F3.ent hE.out
  have hO3 := F3.row hO.out (by decide) (by decide)
  have hR3 : X3.ownsRow B 103 1 (.slice ca k cc) k xs := ownsRow_keep hR2 (fun q hq => by
    obtain ⟨cur, r, hh⟩ := own_type hR2 hq
    exact hg3.block _ (Array.getElem?_eq_some_iff.1 hh).1 (fun e => turns_ne hM2 hh (by cases e; rfl)))
  obtain ⟨-, -, u2, u3, -, -⟩ := hC2.cells
  obtain ⟨z0, -, z2, -, -, zf⟩ := hC3.cells
  obtain ⟨-, -, v2, -, -, -⟩ := hX3.cells
  have hsz3 : B ≤ X3.heap.size := Nat.le_trans (Nat.le_trans hB F2.below.size) F3.below.size
  have hk0 : w.heap.size ≤ (X1.drewN 1).heap.size := HB.out.size
  have F23 := hid_of (F2.trans F3)
  replace hM3 := hid_of hM3
  replace hC3 := hid_of hC3
  replace hX3 := hid_of hX3
  replace hE3 := hid_of hE3
  replace hO3 := hid_of (ownsRow_lo hO3 hk0)
  have hR3' := fun o => ownsRow_below hR3 ((Below.refl _ X3).alloc (Nat.le_refl _) o)
  have hR3' := hid_of hR3'
  have zf2 := zf 2
  have z0a := fun o => cell_alloc' z0 o
  have z2a := fun o => cell_alloc' z2 o
  clear zf F2 F3 hq2 hC2 hX2 hM2 hR2 hg3 hR3 hC hX hM hR HB hb2 hO hE n1 hen c0 y3 k0 k1 k2 k3 k4 k5 k6 j1 j2 j3 j4 j5 j6 j8 hk0
  go_wp2_with fail
  go_region
  clear hup
  go_wp2_with (first
    | (at_builtin; refine wpList_append_lies _ rfl _ _ 197 rfl B 103 i5 _ 1 24 Tryz.underlying197 hi5 hz0 hz1 hz2 rfl (by decide) _ k xs rfl (hR3'.out _) _ 1 1 [.slice (some ⟨g, 0, none⟩) 1 cap] rfl rfl (World.news_of_block (heap_new' (by simp))) (by simp [Value.oneCell']) (by decide) (by unfold maxLen; omega) (by omega) (by simp; omega) _ rfl ?_; intro g2 cap2 X4 hown4 hgrow4 hat4 hlt4; have F4 := fr_row (hR3'.out _) hgrow4 (by simp; omega); have hA := (Below.refl _ X3).alloc (Nat.le_refl _) (.cells #[.slice (some ⟨g, 0, none⟩) 1 cap] 103); have hC4 := ch_row (hC3.out.keep hA) (hR3'.out _) hgrow4; have hM4 := map_row (TurnsAt.keep hM3.out hA) (hR3'.out _) hgrow4; have FA := (LFr.of_below hA hsz3).trans F4; have hE4 := FA.ent hE3.out; have hO4 := FA.row hO3.out (by decide) (by decide); have hX4 := FA.ix hX3.out; have F4' := F23.out.trans FA; obtain ⟨p0, -, p2, -, -, pf⟩ := hC4.cells; have pf2 := pf 2; have F5 := fr_set hC4 hBc (.slice (some ⟨g2, 0, none⟩) (k + 1) cap2); have hC5 := ch_set hC4 (.slice (some ⟨g2, 0, none⟩) (k + 1) cap2); have hM5 := World.ownsMap.setCell hM4 (a := ⟨cb, 2, none⟩) (fun e => ch_turns hC4 hM4 e.symm) (.slice (some ⟨g2, 0, none⟩) (k + 1) cap2); have hE5 := F5.ent hE4; have hO5 := F5.row hO4 (by decide) (by decide); have hX5 := F5.ix hX4; have hown5 := ownsRow_keep hown4 (w' := X4.setCell ⟨cb, 2, none⟩ (.slice (some ⟨g2, 0, none⟩) (k + 1) cap2)) (fun q hq => Below.heap_setCell _ _ _ _ (fun e => ch_own hC4 hown4 hq e)); generalize hW : X4.setCell ⟨cb, 2, none⟩ (.slice (some ⟨g2, 0, none⟩) (k + 1) cap2) = X5 at F5 hC5 hM5 hE5 hO5 hX5 hown5; replace hW := hid_of hW; obtain ⟨w0, -, -, -, -, -⟩ := hC5.cells; obtain ⟨-, -, w2, -, -, -⟩ := hX5.cells; clear hgrow4 hat4 hlt4 pf F4 hA FA hC3 hM3 hR3' hE3 hO3 hX3 F23 z0 z2 z0a z2a zf2 v2 hX4 hO4 hE4 hM4 hC4 hown4 hX5; replace F5 := hid_of F5; replace hC5 := hid_of hC5; replace F4' := hid_of F4'; replace hO5 := hid_of hO5; replace hE5 := hid_of hE5; replace hM5 := hid_of hM5; replace hown5 := hid_of hown5)
    | (rw [hW.out]; clear hW p0 p2 pf2))
  go_ret2
  exact ⟨rfl, F4'.out.trans F5.out, g2, cap2, g, cap, eb, hC5.out, hM5.out, hown5.out, hO5.out, hE5.out⟩
end Go.Proofs.YtdghkmgkmfnjjaaGreatDoor
