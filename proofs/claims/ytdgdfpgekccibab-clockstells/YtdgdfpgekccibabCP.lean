import Derived.Test.YtdgdfpgekccibabCO
import Derived.Deep.AppendLies
import Derived.Deep.RegionLaw
import Derived.Deep.DeepMust
/-! clocks: userOf, use. -/
namespace Go.Proofs.Ytdgdfpgekccibab
open Go Go.RowKit
def UofPost (sv : Value) (n i : Nat) (e : Ending) : Prop := ∃ g cap, sv = .slice (some ⟨g, 0, none⟩) n cap ∧ e = .returned (.pointer (some ⟨g, i * 3, none⟩))
set_option maxHeartbeats 2000000 in
set_option maxRecDepth 100000 in
theorem userof_old (cb : Nat) (us : List Usr) (P : Nat → Prop) (sv : Value) (xs : List Value) (va vw : Nat → Value) (c : Nat) (i : Nat) (u : Usr) (w : World) (hV : CellV w cb us P sv xs va vw) (hi : us[i]? = some u) (hc : u.c = c) (hno : ∀ j v, j < i → us[j]? = some v → v.c ≠ c) :
    Calls Try.prog 43 #[.pointer (some ⟨cb, 0, none⟩), .int .i64 (c : Nat)] w fun e w' => UofPost sv us.length i e ∧ w' = w := by
  have hlt := (List.getElem?_eq_some_iff.1 hi).1
  obtain ⟨a, cap, rfl, hcp, hm, hg⟩ := ownsRow_form hV.row
  obtain ⟨g, rfl⟩ := hg (by omega)
  have y0 : w.cell? ⟨cb, 0, none⟩ = some (.slice (some ⟨g, 0, none⟩) us.length cap) := by simp [World.cell?, hV.box]
  unfold maxLen at hm
  replace hi := hid_of hi
  replace hc := hid_of hc
  have hcell : Hid (∀ j v, us[j]? = some v → w.cell? ⟨g, j * 3, none⟩ = some (.int .i64 (v.c : Nat))) := fun j v hv => ownsRow_cell hV.row (hV.cel j v hv).1
  replace hno := hid_of hno
  clear hV hg
  go_enter Try.func43, Try.ntmps43
  go_wp2_with fail
  go_loop [11] (fun q => ∃ k : Nat, k ≤ i ∧ q = .int .i64 k) (fun q => us.length - (intOf q).toNat)
  case atStart => exact ⟨0, by omega, rfl⟩
  case round =>
    obtain ⟨k, hk, rfl⟩ := hrel
    obtain ⟨v, hv⟩ : ∃ v, Hid (us[k]? = some v) := ⟨_, List.getElem?_eq_getElem (by omega)⟩
    have c0 := hcell.out k v hv.out
    have hkl : k < us.length := by omega
    by_cases hki : k = i
    · subst hki
      have hcc : ((v.c : Nat) : Int) = ((c : Nat) : Int) := by
        have h1 := hv.out
        rw [hi.out] at h1
        cases h1
        rw [hc.out]
      rw [hcc] at c0
      clear hcc
      go_wp2_with fail
      go_ret
      exact ⟨⟨g, cap, rfl, rfl⟩, rfl⟩
    · have hne : ((v.c : Int) == (c : Int)) = false := by
        have := hno.out k v (by omega) hv.out
        simp; omega
      go_wp2_with fail
      go_round
      case rel => exact ⟨k + 1, by omega, by go_num⟩
      case measure => simp [intOf]; omega
/-- A new user. -/
theorem userof_fin {w w0 w4 : World} {cb g c4 cap c : Nat} {a : Option Addr} {us : List Usr} {P : Nat → Prop} {xs : List Value} {va vw : Nat → Value} {o : Obj} (hV : CellV w cb us P (.slice a us.length cap) xs va vw) (hw0 : w0 = w.alloc o)
    (hown : w4.ownsRow 0 95 3 (.slice (some ⟨g, 0, none⟩) (us.length + 1) c4) (us.length + 1) (xs ++ [.int .i64 (c : Nat), .slice none 0 0, .slice none 0 0])) (hgrow : w0.grownBy w4 (Value.slice a us.length cap).ownBlock) (hat : (Value.slice a us.length cap).ownBlock = some g ∨ g = w0.heap.size) (hglt : g < w4.heap.size) :
    (w4.cell? ⟨cb, 0, none⟩ = some (.slice a us.length cap) ∧ w4.frozen? ⟨cb, 0, none⟩ = false) ∧ ∃ P', CellV (w4.setCell ⟨cb, 0, none⟩ (.slice (some ⟨g, 0, none⟩) (us.length + 1) c4)) cb (us ++ [⟨c, [], []⟩]) P' (.slice (some ⟨g, 0, none⟩) (us.length + 1) c4) (xs ++ [.int .i64 (c : Nat), .slice none 0 0, .slice none 0 0]) (fun i => if i < us.length then va i else .slice none 0 0) (fun i => if i < us.length then vw i else .slice none 0 0) ∧ (∀ b, P' b → P b ∨ w.heap.size ≤ b) ∧ Fr P w (w4.setCell ⟨cb, 0, none⟩ (.slice (some ⟨g, 0, none⟩) (us.length + 1) c4)) := by
  subst hw0
  have hpg : ∀ b, (Value.slice a us.length cap).ownBlock = some b → P b := hV.ps
  have hcl := (Array.getElem?_eq_some_iff.1 hV.box).1
  have hxl : xs.length = us.length * 3 := hV.row.1
  have hncb : (Value.slice a us.length cap).ownBlock ≠ some cb := fun e => by
    obtain ⟨_, h2⟩ := hV.row
    rcases h2 with ⟨hv, _⟩ | ⟨g', cap', cur, hv, _, hh, _⟩
    · rw [hv] at e; cases e
    · rw [hv] at e
      cases e
      rw [hV.box] at hh
      cases hh
  have hk4 : ∀ b, b < w.heap.size → (Value.slice a us.length cap).ownBlock ≠ some b → w4.heap[b]? = w.heap[b]? := fun b hb hne => (hgrow.block b (by rw [World.size_alloc]; omega) (fun e => hne e.symm)).trans (Below.heap_alloc w o b hb)
  have hb4 := (hk4 cb hcl hncb).trans hV.box
  have hg : g ≠ cb := by
    rcases hat with e | e
    · rintro rfl; exact hncb e
    · rw [World.size_alloc] at e; omega
  have hk5 : ∀ b, b ≠ cb → (w4.setCell ⟨cb, 0, none⟩ (.slice (some ⟨g, 0, none⟩) (us.length + 1) c4)).heap[b]? = w4.heap[b]? := fun b hb => Below.heap_setCell _ _ _ _ hb
  have hs5 : (w4.setCell ⟨cb, 0, none⟩ (.slice (some ⟨g, 0, none⟩) (us.length + 1) c4)).heap.size = w4.heap.size := by simp [World.setCell]
  have hs4 := hgrow.size
  rw [World.size_alloc] at hs4
  have huse : ∀ v l, UseRow w v l → (∀ b, v.ownBlock = some b → P b) → UseRow (w4.setCell ⟨cb, 0, none⟩ (.slice (some ⟨g, 0, none⟩) (us.length + 1) c4)) v l := fun v l h hp => ownsRow_keep h (fun b hb => by
    obtain ⟨_, h2⟩ := h
    rcases h2 with ⟨hv, _⟩ | ⟨g', cap', cur, hv, _, hh, _⟩
    · rw [hv] at hb; cases hb
    · rw [hv] at hb
      cases hb
      have n1 : g' ≠ cb := fun e => by subst e; rw [hV.box] at hh; cases hh
      rw [hk5 _ n1]
      refine hk4 _ (Array.getElem?_eq_some_iff.1 hh).1 (fun e => ?_)
      obtain ⟨_, h3⟩ := hV.row
      rcases h3 with ⟨hv', _⟩ | ⟨g2, _, _, hv', _, hh2, _⟩
      · rw [hv'] at e; cases e
      · rw [hv'] at e
        cases e
        rw [hh] at hh2
        cases hh2)
  refine ⟨⟨by simp [World.cell?, hb4], by simp [World.frozen?, hb4]⟩, fun b => P b ∨ b = g, ⟨?_, ?_, fun i u hu => ?_, fun i u hu => ?_, fun i u hu => ?_, .inl hV.pc, fun b hb => ?_, fun i b hi hb => ?_, fun i b hi hb => ?_, fun i j b hi hj h1 h2 => ?_, fun i j b hi hj h1 h2 => ?_, fun i j b hi hj h1 h2 => ?_, fun b hb => ?_⟩, fun b hb => ?_, ?_⟩
  · simp [World.setCell, Array.getElem?_modify, hb4]
  · rw [List.length_append]; exact ownsRow_keep hown (fun b hb => by cases hb; exact hk5 _ hg)
  · by_cases hlt : i < us.length
    · rw [List.getElem?_append_left hlt] at hu
      simp only [hlt, if_true]
      obtain ⟨e1, e2, e3⟩ := hV.cel i u hu
      rw [List.getElem?_append_left (by omega), List.getElem?_append_left (by omega), List.getElem?_append_left (by omega)]
      exact ⟨e1, e2, e3⟩
    · have hil := (List.getElem?_eq_some_iff.1 hu).1
      simp at hil
      obtain rfl : i = us.length := by omega
      simp at hu
      subst hu
      simp only [Nat.lt_irrefl, if_false]
      rw [List.getElem?_append_right (by omega), List.getElem?_append_right (by omega), List.getElem?_append_right (by omega), hxl]
      simp
  · by_cases hlt : i < us.length
    · rw [List.getElem?_append_left hlt] at hu
      simp only [hlt, if_true]
      exact huse _ _ (hV.ra i u hu) (fun b hb => hV.pa i b hlt hb)
    · have hil := (List.getElem?_eq_some_iff.1 hu).1
      simp at hil
      obtain rfl : i = us.length := by omega
      simp at hu
      subst hu
      simp only [Nat.lt_irrefl, if_false]
      exact ⟨rfl, .inl ⟨rfl, rfl⟩⟩
  · by_cases hlt : i < us.length
    · rw [List.getElem?_append_left hlt] at hu
      simp only [hlt, if_true]
      exact huse _ _ (hV.rv i u hu) (fun b hb => hV.pw i b hlt hb)
    · have hil := (List.getElem?_eq_some_iff.1 hu).1
      simp at hil
      obtain rfl : i = us.length := by omega
      simp at hu
      subst hu
      simp only [Nat.lt_irrefl, if_false]
      exact ⟨rfl, .inl ⟨rfl, rfl⟩⟩
  · cases hb; exact .inr rfl
  · by_cases hlt : i < us.length
    · simp only [hlt, if_true] at hb; exact .inl (hV.pa i b hlt hb)
    · simp only [hlt, if_false] at hb; cases hb
  · by_cases hlt : i < us.length
    · simp only [hlt, if_true] at hb; exact .inl (hV.pw i b hlt hb)
    · simp only [hlt, if_false] at hb; cases hb
  · by_cases e1 : i < us.length <;> by_cases e2 : j < us.length <;> simp only [e1, e2, if_true, if_false] at h1 h2
    · exact hV.da i j b e1 e2 h1 h2
    · cases h2
    · cases h1
    · cases h1
  · by_cases e1 : i < us.length <;> by_cases e2 : j < us.length <;> simp only [e1, e2, if_true, if_false] at h1 h2
    · exact hV.dw i j b e1 e2 h1 h2
    · cases h2
    · cases h1
    · cases h1
  · by_cases e1 : i < us.length <;> by_cases e2 : j < us.length <;> simp only [e1, e2, if_true, if_false] at h1 h2
    · exact hV.dd i j b e1 e2 h1 h2
    · cases h2
    · cases h1
    · cases h1
  · rw [hs5]
    rcases hb with hb | rfl
    · have := hV.lt b hb; omega
    · exact hglt
  · rcases hb with hb | rfl
    · exact .inl hb
    · rcases hat with e | e
      · exact .inl (hpg _ e)
      · rw [World.size_alloc] at e; exact .inr (by omega)
  · exact (((Fr.refl P w).alloc o).grown hgrow (fun b e => .inl (hpg b e))).set _ _ (.inl hV.pc)
/-- What userOf answers where the client is new. -/
def NewPost (w : World) (cb : Nat) (us : List Usr) (P : Nat → Prop) (c : Nat) (e : Ending) (w' : World) : Prop :=
  ∃ g cap xs va vw P', e = .returned (.pointer (some ⟨g, us.length * 3, none⟩)) ∧ CellV w' cb (us ++ [⟨c, [], []⟩]) P' (.slice (some ⟨g, 0, none⟩) (us.length + 1) cap) xs va vw ∧ (∀ b, P' b → P b ∨ w.heap.size ≤ b) ∧ Fr P w w'
theorem NewPost.drewN {w : World} {cb : Nat} {us : List Usr} {P : Nat → Prop} {c : Nat} {e : Ending} {w' : World} (h : NewPost w cb us P c e w') (n : Nat) : NewPost w cb us P c e (w'.drewN n) := by
  obtain ⟨g, cap, xs, va, vw, P', h1, h2, h3, h4⟩ := h
  exact ⟨g, cap, xs, va, vw, P', h1, h2.keep (Nat.le_refl _) (fun _ _ => rfl), h3, h4.drewN n⟩
set_option maxHeartbeats 2000000 in
set_option maxRecDepth 100000 in
theorem userof_new (cb : Nat) (us : List Usr) (P : Nat → Prop) (c : Nat) (w : World) (hC : CellAt w cb us P) (hno : ∀ v ∈ us, v.c ≠ c) (hn : us.length ≤ 1048576) :
    Calls Try.prog 43 #[.pointer (some ⟨cb, 0, none⟩), .int .i64 (c : Nat)] w (NewPost w cb us P c) := by
  obtain ⟨sv, xs, va, vw, hV⟩ := hC
  obtain ⟨a, cap, rfl, hcp, hm, hg⟩ := ownsRow_form hV.row
  have y0 : w.cell? ⟨cb, 0, none⟩ = some (.slice a us.length cap) := by simp [World.cell?, hV.box]
  unfold maxLen at hm
  have hcell : Hid (∀ j v g, a = some ⟨g, 0, none⟩ → us[j]? = some v → w.cell? ⟨g, j * 3, none⟩ = some (.int .i64 (v.c : Nat))) := fun j v g e hv => by subst e; exact ownsRow_cell hV.row (hV.cel j v hv).1
  replace hno := hid_of hno
  replace hV := hid_of hV
  go_enter Try.func43, Try.ntmps43
  go_wp2_with fail
  go_loop [11] (fun q => ∃ k : Nat, k ≤ us.length ∧ q = .int .i64 k) (fun q => us.length - (intOf q).toNat)
  case atStart => exact ⟨0, by omega, rfl⟩
  case round =>
    obtain ⟨k, hk, rfl⟩ := hrel
    by_cases hlt : k < us.length
    · obtain ⟨v, hv⟩ : ∃ v, Hid (us[k]? = some v) := ⟨_, List.getElem?_eq_getElem hlt⟩
      obtain ⟨g, rfl⟩ := hg (by omega)
      have c0 := hcell.out k v g rfl hv.out
      have hne : ((v.c : Int) == (c : Int)) = false := by
        have := hno.out v (List.mem_of_getElem? hv.out)
        simp; omega
      clear hcell hno hV
      go_wp2_with fail
      go_round
      case rel => exact ⟨k + 1, by omega, by go_num⟩
      case measure => simp [intOf]; omega
    · obtain ⟨i3, hi3, hz0, hz1, hz2⟩ := info_parts user_i
      have hone : ∀ u ∈ [(.int .i64 (c : Nat) : Value), .slice none 0 0, .slice none 0 0], u.oneCell' = true := by
        intro u hu
        simp at hu
        rcases hu with rfl | rfl <;> rfl
      clear hcell hno
      go_wp2_with (first
        | (rw [hW5.out])
        | (at_builtin; go_must (refine wpList_append_lies _ rfl _ _ 70 rfl 0 95 i3 _ 3 56 Try.underlying70 hi3 hz0 hz1 hz2 rfl (by decide) _ us.length xs rfl (hV.out.row.alloc _) _ 1 1 [.int .i64 (c : Nat), .slice none 0 0, .slice none 0 0] rfl rfl (World.news_of_block (heap_alloc_new w _)) hone (by decide) (by unfold maxLen; omega) (by omega) (by omega) _ rfl ?_); intro g c4 w4 hown4 hgrow4 hat4 hlt4; obtain ⟨⟨u1, u2⟩, P', hV5, hP5, hF5⟩ := userof_fin hV.out rfl hown4 hgrow4 hat4 hlt4; obtain ⟨W5, hW5⟩ : ∃ W5, Hid (w4.setCell ⟨cb, 0, none⟩ (.slice (some ⟨g, 0, none⟩) (us.length + 1) c4) = W5) := ⟨_, rfl⟩; rw [hW5.out] at hV5 hF5; have u3 : W5.cell? ⟨cb, 0, none⟩ = some (.slice (some ⟨g, 0, none⟩) (us.length + 1) c4) := (by simp [World.cell?, hV5.box]); replace hV5 := hid_of hV5; replace hP5 := hid_of hP5; replace hF5 := hid_of hF5; clear hown4 hgrow4 hat4 hlt4))
      clear hV hone hi3 hz0 hz1 hz2 y0 u1 u2 hW5
      go_quiet (fail)
      go_wp2_with fail
      go_ret
      exact NewPost.drewN ⟨g, c4, _, _, _, P', rfl, hV5.out, hP5.out, hF5.out⟩ _
theorem set_all {w w0 w4 : World} {cb g g4 c4 cap i : Nat} {u : Nat × Nat} {x : Usr} {us : List Usr} {P : Nat → Prop} {xs : List Value} {va vw : Nat → Value} (hV : CellV w cb us P (.slice (some ⟨g, 0, none⟩) us.length cap) xs va vw) (hi : us[i]? = some x) (hB : Below w.heap.size w w0)
    (hown : w4.ownsRow 0 78 2 (.slice (some ⟨g4, 0, none⟩) (x.all.length + 1) c4) (x.all.length + 1) (flatU x.all ++ [.int .i64 (u.1 : Nat), .int .i32 (u.2 : Nat)])) (hgrow : w0.grownBy w4 (va i).ownBlock) (hat : (va i).ownBlock = some g4 ∨ g4 = w0.heap.size) (hglt : g4 < w4.heap.size) :
    (w4.cell? ⟨g, i * 3 + 1, none⟩ = some (va i) ∧ w4.frozen? ⟨g, i * 3 + 1, none⟩ = false) ∧ ∃ P', CellV (w4.setCell ⟨g, i * 3 + 1, none⟩ (.slice (some ⟨g4, 0, none⟩) (x.all.length + 1) c4)) cb (us.set i ⟨x.c, x.all ++ [u], x.wr⟩) P' (.slice (some ⟨g, 0, none⟩) us.length cap) (xs.set (i * 3 + 1) (.slice (some ⟨g4, 0, none⟩) (x.all.length + 1) c4)) (upd va i (.slice (some ⟨g4, 0, none⟩) (x.all.length + 1) c4)) vw ∧ (∀ b, P' b → P b ∨ w.heap.size ≤ b) ∧ Fr P w (w4.setCell ⟨g, i * 3 + 1, none⟩ (.slice (some ⟨g4, 0, none⟩) (x.all.length + 1) c4)) := by
  have hil : i < us.length := (List.getElem?_eq_some_iff.1 hi).1
  have hxl : xs.length = us.length * 3 := hV.row.1
  obtain ⟨nv, hnv⟩ : ∃ nv, (.slice (some ⟨g4, 0, none⟩) (x.all.length + 1) c4 : Value) = nv := ⟨_, rfl⟩
  have hnb : nv.ownBlock = some g4 := by rw [← hnv]; rfl
  rw [hnv] at hown ⊢
  obtain ⟨cur, hgb, hgs, hgr⟩ : ∃ cur, w.heap[g]? = some (.cells cur 95 (0, 0)) ∧ cur.size = cap * 3 ∧ cur.toList.take (us.length * 3) = xs := by
    obtain ⟨_, h2⟩ := hV.row
    rcases h2 with ⟨hv, _⟩ | ⟨g', cap', cur, hv, _, hh, _, _, hs, hr⟩
    · cases hv
    · cases hv; exact ⟨cur, hh, hs, hr⟩
  have hgl := (Array.getElem?_eq_some_iff.1 hgb).1
  have hcl := (Array.getElem?_eq_some_iff.1 hV.box).1
  have hncg : cb ≠ g := fun e => by subst e; rw [hV.box] at hgb; cases hgb
  have huse : ∀ v l b, UseRow w v l → v.ownBlock = some b → ∃ cur, w.heap[b]? = some (.cells cur 78 (0, 0)) := fun v l b h hb => by
    obtain ⟨_, h2⟩ := h
    rcases h2 with ⟨hv, _⟩ | ⟨g', cap', cur, hv, _, hh, _⟩
    · rw [hv] at hb; cases hb
    · rw [hv] at hb; cases hb; exact ⟨_, hh⟩
  have hvi : ∀ b, (va i).ownBlock = some b → b ≠ cb ∧ b ≠ g := fun b hb => by
    obtain ⟨cur2, hh⟩ := huse _ _ b (hV.ra i x hi) hb
    refine ⟨fun e => ?_, fun e => ?_⟩
    · subst e; rw [hV.box] at hh; cases hh
    · subst e; rw [hgb] at hh; cases hh
  have hk4 : ∀ b, b < w.heap.size → (va i).ownBlock ≠ some b → w4.heap[b]? = w.heap[b]? := fun b hb hne => (hgrow.block b (Nat.lt_of_lt_of_le hb hB.size) (fun e => hne e.symm)).trans (hB.block b hb)
  have hg4 := (hk4 g hgl (fun e => (hvi g e).2 rfl)).trans hgb
  have hc4 := (hk4 cb hcl (fun e => (hvi cb e).1 rfl)).trans hV.box
  have hng : g4 ≠ g ∧ g4 ≠ cb := by
    rcases hat with e | e
    · exact ⟨(hvi g4 e).2, (hvi g4 e).1⟩
    · have := hB.size; omega
  have hk5 : ∀ b, b ≠ g → (w4.setCell ⟨g, i * 3 + 1, none⟩ nv).heap[b]? = w4.heap[b]? := fun b hb => Below.heap_setCell _ _ _ _ hb
  have hs5 : (w4.setCell ⟨g, i * 3 + 1, none⟩ nv).heap.size = w4.heap.size := by simp [World.setCell]
  have hs4 : w.heap.size ≤ w4.heap.size := Nat.le_trans hB.size hgrow.size
  have hold : ∀ v l b, UseRow w v l → v.ownBlock = some b → (va i).ownBlock ≠ some b → (w4.setCell ⟨g, i * 3 + 1, none⟩ nv).heap[b]? = w.heap[b]? := fun v l b h hb hne => by
    obtain ⟨cur2, hh⟩ := huse _ _ b h hb
    rw [hk5 b (fun e => by subst e; rw [hgb] at hh; cases hh)]
    exact hk4 b (Array.getElem?_eq_some_iff.1 hh).1 hne
  have hcur : cur[i * 3 + 1]? = some (va i) := by
    have := (hV.cel i x hi).2.1
    rw [← hgr, List.getElem?_take_of_lt (by omega), Array.getElem?_toList] at this
    exact this
  have hnew : ∀ b, nv.ownBlock = some b → ∀ v l, UseRow w v l → (∀ b', v.ownBlock = some b' → (va i).ownBlock ≠ some b') → v.ownBlock ≠ some b := fun b hb v l h hne e => by
    rw [hnb] at hb
    cases hb
    rcases hat with h1 | h1
    · exact hne _ e h1
    · obtain ⟨cur2, hh⟩ := huse _ _ _ h e
      have := (Array.getElem?_eq_some_iff.1 hh).1
      have := hB.size
      omega
  have hVO : ∀ j y b, us[j]? = some y → (vw j).ownBlock = some b → (va i).ownBlock ≠ some b := fun j y b hy h1 h2 => hV.dd i j b hil (List.getElem?_eq_some_iff.1 hy).1 h2 h1
  have hVJ : ∀ j b, j < us.length → j ≠ i → (va j).ownBlock = some b → (va i).ownBlock ≠ some b := fun j b hj hn h1 h2 => hn (hV.da j i b hj hil h1 h2)
  have hset : ∀ j y, (us.set i ⟨x.c, x.all ++ [u], x.wr⟩)[j]? = some y → (j = i ∧ y = ⟨x.c, x.all ++ [u], x.wr⟩) ∨ (j ≠ i ∧ us[j]? = some y) := fun j y hy => by
    by_cases e : j = i
    · subst e
      rw [List.getElem?_set_self hil] at hy
      exact .inl ⟨rfl, (Option.some.inj hy).symm⟩
    · rw [List.getElem?_set_ne (fun e' => e e'.symm)] at hy
      exact .inr ⟨e, hy⟩
  refine ⟨⟨by simp [World.cell?, hg4, hcur], by simp [World.frozen?, hg4]⟩, fun b => P b ∨ b = g4, ⟨?_, ?_, fun j y hy => ?_, fun j y hy => ?_, fun j y hy => ?_, .inl hV.pc, fun b hb => .inl (hV.ps b hb), fun j b hj hb => ?_, fun j b hj hb => ?_, fun j k b hj hk h1 h2 => ?_, fun j k b hj hk h1 h2 => ?_, fun j k b hj hk h1 h2 => ?_, fun b hb => ?_⟩, fun b hb => ?_, ?_⟩
  · rw [hk5 cb hncg]; exact hc4
  · rw [List.length_set]
    refine ⟨by rw [List.length_set]; exact hxl, .inr ⟨g, cap, cur.setIfInBounds (i * 3 + 1) nv, rfl, Nat.zero_le _, ?_, ?_, ?_, by simpa using hgs, ?_⟩⟩
    · simp [World.setCell, Array.getElem?_modify, hg4]
    · obtain ⟨_, h2⟩ := hV.row
      rcases h2 with ⟨hv, _⟩ | ⟨g', cap', cur', hv, _, _, h, _⟩
      · cases hv
      · cases hv; exact h
    · obtain ⟨_, h2⟩ := hV.row
      rcases h2 with ⟨hv, _⟩ | ⟨g', cap', cur', hv, _, _, _, h, _⟩
      · cases hv
      · cases hv; exact h
    · rw [Array.toList_setIfInBounds, List.take_set, hgr]
  · rcases hset j y hy with ⟨rfl, rfl⟩ | ⟨hne, hy⟩
    · obtain ⟨e1, e2, e3⟩ := hV.cel j x hi
      rw [List.getElem?_set_ne (by omega), List.getElem?_set_self (by omega), List.getElem?_set_ne (by omega)]
      simp only [upd_same]
      exact ⟨e1, trivial, e3⟩
    · obtain ⟨e1, e2, e3⟩ := hV.cel j y hy
      rw [List.getElem?_set_ne (by omega), List.getElem?_set_ne (by omega), List.getElem?_set_ne (by omega)]
      simp only [upd_other _ _ hne]
      exact ⟨e1, e2, e3⟩
  · rcases hset j y hy with ⟨rfl, rfl⟩ | ⟨hne, hy⟩
    · simp only [upd_same]
      have := ownsRow_keep hown (w' := w4.setCell ⟨g, j * 3 + 1, none⟩ nv) (fun b hb => by rw [hnb] at hb; cases hb; exact hk5 _ hng.1)
      unfold UseRow
      rw [flatU_snoc, List.length_append]
      exact this
    · simp only [upd_other _ _ hne]
      exact ownsRow_keep (hV.ra j y hy) (fun b hb => hold _ _ b (hV.ra j y hy) hb (hVJ j b (List.getElem?_eq_some_iff.1 hy).1 hne hb))
  · rcases hset j y hy with ⟨rfl, rfl⟩ | ⟨hne, hy⟩
    · exact ownsRow_keep (hV.rv j x hi) (fun b hb => hold _ _ b (hV.rv j x hi) hb (hVO j x b hi hb))
    · exact ownsRow_keep (hV.rv j y hy) (fun b hb => hold _ _ b (hV.rv j y hy) hb (hVO j y b hy hb))
  · rw [List.length_set] at hj
    by_cases e : j = i
    · subst e
      simp only [upd_same] at hb
      rw [hnb] at hb
      cases hb
      exact .inr rfl
    · simp only [upd_other _ _ e] at hb
      exact .inl (hV.pa j b hj hb)
  · rw [List.length_set] at hj
    exact .inl (hV.pw j b hj hb)
  · rw [List.length_set] at hj hk
    by_cases e1 : j = i <;> by_cases e2 : k = i
    · omega
    · exfalso
      subst e1
      simp only [upd_same, upd_other _ _ e2] at h1 h2
      obtain ⟨y, hy⟩ : ∃ y, us[k]? = some y := ⟨_, List.getElem?_eq_getElem hk⟩
      exact hnew b h1 _ _ (hV.ra k y hy) (fun b' hb' => hVJ k b' hk e2 hb') h2
    · exfalso
      subst e2
      simp only [upd_same, upd_other _ _ e1] at h1 h2
      obtain ⟨y, hy⟩ : ∃ y, us[j]? = some y := ⟨_, List.getElem?_eq_getElem hj⟩
      exact hnew b h2 _ _ (hV.ra j y hy) (fun b' hb' => hVJ j b' hj e1 hb') h1
    · simp only [upd_other _ _ e1, upd_other _ _ e2] at h1 h2
      exact hV.da j k b hj hk h1 h2
  · rw [List.length_set] at hj hk
    exact hV.dw j k b hj hk h1 h2
  · rw [List.length_set] at hj hk
    by_cases e1 : j = i
    · subst e1
      simp only [upd_same] at h1
      obtain ⟨y, hy⟩ : ∃ y, us[k]? = some y := ⟨_, List.getElem?_eq_getElem hk⟩
      exact hnew b h1 _ _ (hV.rv k y hy) (fun b' hb' => hVO k y b' hy hb') h2
    · simp only [upd_other _ _ e1] at h1
      exact hV.dd j k b hj hk h1 h2
  · rw [hs5]
    rcases hb with hb | rfl
    · have := hV.lt b hb; omega
    · exact hglt
  · rcases hb with hb | rfl
    · exact .inl hb
    · rcases hat with e | e
      · exact .inl (hV.pa i _ hil e)
      · exact .inr (by have := hB.size; omega)
  · exact ((Fr.of_below (S := P) hB).grown hgrow (fun b e => .inl (hV.pa i b hil e))).set ⟨g, i * 3 + 1, none⟩ nv (.inl (hV.ps g rfl))
theorem set_wr {w w0 w4 : World} {cb g g4 c4 cap i : Nat} {u : Nat × Nat} {x : Usr} {us : List Usr} {P : Nat → Prop} {xs : List Value} {va vw : Nat → Value} (hV : CellV w cb us P (.slice (some ⟨g, 0, none⟩) us.length cap) xs va vw) (hi : us[i]? = some x) (hB : Below w.heap.size w w0)
    (hown : w4.ownsRow 0 78 2 (.slice (some ⟨g4, 0, none⟩) (x.wr.length + 1) c4) (x.wr.length + 1) (flatU x.wr ++ [.int .i64 (u.1 : Nat), .int .i32 (u.2 : Nat)])) (hgrow : w0.grownBy w4 (vw i).ownBlock) (hat : (vw i).ownBlock = some g4 ∨ g4 = w0.heap.size) (hglt : g4 < w4.heap.size) :
    (w4.cell? ⟨g, i * 3 + 2, none⟩ = some (vw i) ∧ w4.frozen? ⟨g, i * 3 + 2, none⟩ = false) ∧ ∃ P', CellV (w4.setCell ⟨g, i * 3 + 2, none⟩ (.slice (some ⟨g4, 0, none⟩) (x.wr.length + 1) c4)) cb (us.set i ⟨x.c, x.all, x.wr ++ [u]⟩) P' (.slice (some ⟨g, 0, none⟩) us.length cap) (xs.set (i * 3 + 2) (.slice (some ⟨g4, 0, none⟩) (x.wr.length + 1) c4)) va (upd vw i (.slice (some ⟨g4, 0, none⟩) (x.wr.length + 1) c4)) ∧ (∀ b, P' b → P b ∨ w.heap.size ≤ b) ∧ Fr P w (w4.setCell ⟨g, i * 3 + 2, none⟩ (.slice (some ⟨g4, 0, none⟩) (x.wr.length + 1) c4)) := by
  have hil : i < us.length := (List.getElem?_eq_some_iff.1 hi).1
  have hxl : xs.length = us.length * 3 := hV.row.1
  obtain ⟨nv, hnv⟩ : ∃ nv, (.slice (some ⟨g4, 0, none⟩) (x.wr.length + 1) c4 : Value) = nv := ⟨_, rfl⟩
  have hnb : nv.ownBlock = some g4 := by rw [← hnv]; rfl
  rw [hnv] at hown ⊢
  obtain ⟨cur, hgb, hgs, hgr⟩ : ∃ cur, w.heap[g]? = some (.cells cur 95 (0, 0)) ∧ cur.size = cap * 3 ∧ cur.toList.take (us.length * 3) = xs := by
    obtain ⟨_, h2⟩ := hV.row
    rcases h2 with ⟨hv, _⟩ | ⟨g', cap', cur, hv, _, hh, _, _, hs, hr⟩
    · cases hv
    · cases hv; exact ⟨cur, hh, hs, hr⟩
  have hgl := (Array.getElem?_eq_some_iff.1 hgb).1
  have hcl := (Array.getElem?_eq_some_iff.1 hV.box).1
  have hncg : cb ≠ g := fun e => by subst e; rw [hV.box] at hgb; cases hgb
  have huse : ∀ v l b, UseRow w v l → v.ownBlock = some b → ∃ cur, w.heap[b]? = some (.cells cur 78 (0, 0)) := fun v l b h hb => by
    obtain ⟨_, h2⟩ := h
    rcases h2 with ⟨hv, _⟩ | ⟨g', cap', cur, hv, _, hh, _⟩
    · rw [hv] at hb; cases hb
    · rw [hv] at hb; cases hb; exact ⟨_, hh⟩
  have hvi : ∀ b, (vw i).ownBlock = some b → b ≠ cb ∧ b ≠ g := fun b hb => by
    obtain ⟨cur2, hh⟩ := huse _ _ b (hV.rv i x hi) hb
    refine ⟨fun e => ?_, fun e => ?_⟩
    · subst e; rw [hV.box] at hh; cases hh
    · subst e; rw [hgb] at hh; cases hh
  have hk4 : ∀ b, b < w.heap.size → (vw i).ownBlock ≠ some b → w4.heap[b]? = w.heap[b]? := fun b hb hne => (hgrow.block b (Nat.lt_of_lt_of_le hb hB.size) (fun e => hne e.symm)).trans (hB.block b hb)
  have hg4 := (hk4 g hgl (fun e => (hvi g e).2 rfl)).trans hgb
  have hc4 := (hk4 cb hcl (fun e => (hvi cb e).1 rfl)).trans hV.box
  have hng : g4 ≠ g ∧ g4 ≠ cb := by
    rcases hat with e | e
    · exact ⟨(hvi g4 e).2, (hvi g4 e).1⟩
    · have := hB.size; omega
  have hk5 : ∀ b, b ≠ g → (w4.setCell ⟨g, i * 3 + 2, none⟩ nv).heap[b]? = w4.heap[b]? := fun b hb => Below.heap_setCell _ _ _ _ hb
  have hs5 : (w4.setCell ⟨g, i * 3 + 2, none⟩ nv).heap.size = w4.heap.size := by simp [World.setCell]
  have hs4 : w.heap.size ≤ w4.heap.size := Nat.le_trans hB.size hgrow.size
  have hold : ∀ v l b, UseRow w v l → v.ownBlock = some b → (vw i).ownBlock ≠ some b → (w4.setCell ⟨g, i * 3 + 2, none⟩ nv).heap[b]? = w.heap[b]? := fun v l b h hb hne => by
    obtain ⟨cur2, hh⟩ := huse _ _ b h hb
    rw [hk5 b (fun e => by subst e; rw [hgb] at hh; cases hh)]
    exact hk4 b (Array.getElem?_eq_some_iff.1 hh).1 hne
  have hcur : cur[i * 3 + 2]? = some (vw i) := by
    have := (hV.cel i x hi).2.2
    rw [← hgr, List.getElem?_take_of_lt (by omega), Array.getElem?_toList] at this
    exact this
  have hnew : ∀ b, nv.ownBlock = some b → ∀ v l, UseRow w v l → (∀ b', v.ownBlock = some b' → (vw i).ownBlock ≠ some b') → v.ownBlock ≠ some b := fun b hb v l h hne e => by
    rw [hnb] at hb
    cases hb
    rcases hat with h1 | h1
    · exact hne _ e h1
    · obtain ⟨cur2, hh⟩ := huse _ _ _ h e
      have := (Array.getElem?_eq_some_iff.1 hh).1
      have := hB.size
      omega
  have hVO : ∀ j y b, us[j]? = some y → (va j).ownBlock = some b → (vw i).ownBlock ≠ some b := fun j y b hy h1 h2 => hV.dd j i b (List.getElem?_eq_some_iff.1 hy).1 hil h1 h2
  have hVJ : ∀ j b, j < us.length → j ≠ i → (vw j).ownBlock = some b → (vw i).ownBlock ≠ some b := fun j b hj hn h1 h2 => hn (hV.dw j i b hj hil h1 h2)
  have hset : ∀ j y, (us.set i ⟨x.c, x.all, x.wr ++ [u]⟩)[j]? = some y → (j = i ∧ y = ⟨x.c, x.all, x.wr ++ [u]⟩) ∨ (j ≠ i ∧ us[j]? = some y) := fun j y hy => by
    by_cases e : j = i
    · subst e
      rw [List.getElem?_set_self hil] at hy
      exact .inl ⟨rfl, (Option.some.inj hy).symm⟩
    · rw [List.getElem?_set_ne (fun e' => e e'.symm)] at hy
      exact .inr ⟨e, hy⟩
  refine ⟨⟨by simp [World.cell?, hg4, hcur], by simp [World.frozen?, hg4]⟩, fun b => P b ∨ b = g4, ⟨?_, ?_, fun j y hy => ?_, fun j y hy => ?_, fun j y hy => ?_, .inl hV.pc, fun b hb => .inl (hV.ps b hb), fun j b hj hb => ?_, fun j b hj hb => ?_, fun j k b hj hk h1 h2 => ?_, fun j k b hj hk h1 h2 => ?_, fun j k b hj hk h1 h2 => ?_, fun b hb => ?_⟩, fun b hb => ?_, ?_⟩
  · rw [hk5 cb hncg]; exact hc4
  · rw [List.length_set]
    refine ⟨by rw [List.length_set]; exact hxl, .inr ⟨g, cap, cur.setIfInBounds (i * 3 + 2) nv, rfl, Nat.zero_le _, ?_, ?_, ?_, by simpa using hgs, ?_⟩⟩
    · simp [World.setCell, Array.getElem?_modify, hg4]
    · obtain ⟨_, h2⟩ := hV.row
      rcases h2 with ⟨hv, _⟩ | ⟨g', cap', cur', hv, _, _, h, _⟩
      · cases hv
      · cases hv; exact h
    · obtain ⟨_, h2⟩ := hV.row
      rcases h2 with ⟨hv, _⟩ | ⟨g', cap', cur', hv, _, _, _, h, _⟩
      · cases hv
      · cases hv; exact h
    · rw [Array.toList_setIfInBounds, List.take_set, hgr]
  · rcases hset j y hy with ⟨rfl, rfl⟩ | ⟨hne, hy⟩
    · obtain ⟨e1, e2, e3⟩ := hV.cel j x hi
      rw [List.getElem?_set_ne (by omega), List.getElem?_set_ne (by omega), List.getElem?_set_self (by omega)]
      simp only [upd_same]
      exact ⟨e1, e2, trivial⟩
    · obtain ⟨e1, e2, e3⟩ := hV.cel j y hy
      rw [List.getElem?_set_ne (by omega), List.getElem?_set_ne (by omega), List.getElem?_set_ne (by omega)]
      simp only [upd_other _ _ hne]
      exact ⟨e1, e2, e3⟩
  · rcases hset j y hy with ⟨rfl, rfl⟩ | ⟨hne, hy⟩
    · exact ownsRow_keep (hV.ra j x hi) (fun b hb => hold _ _ b (hV.ra j x hi) hb (hVO j x b hi hb))
    · exact ownsRow_keep (hV.ra j y hy) (fun b hb => hold _ _ b (hV.ra j y hy) hb (hVO j y b hy hb))
  · rcases hset j y hy with ⟨rfl, rfl⟩ | ⟨hne, hy⟩
    · simp only [upd_same]
      have := ownsRow_keep hown (w' := w4.setCell ⟨g, j * 3 + 2, none⟩ nv) (fun b hb => by rw [hnb] at hb; cases hb; exact hk5 _ hng.1)
      unfold UseRow
      rw [flatU_snoc, List.length_append]
      exact this
    · simp only [upd_other _ _ hne]
      exact ownsRow_keep (hV.rv j y hy) (fun b hb => hold _ _ b (hV.rv j y hy) hb (hVJ j b (List.getElem?_eq_some_iff.1 hy).1 hne hb))
  · rw [List.length_set] at hj
    exact .inl (hV.pa j b hj hb)
  · rw [List.length_set] at hj
    by_cases e : j = i
    · subst e
      simp only [upd_same] at hb
      rw [hnb] at hb
      cases hb
      exact .inr rfl
    · simp only [upd_other _ _ e] at hb
      exact .inl (hV.pw j b hj hb)
  · rw [List.length_set] at hj hk
    exact hV.da j k b hj hk h1 h2
  · rw [List.length_set] at hj hk
    by_cases e1 : j = i <;> by_cases e2 : k = i
    · omega
    · exfalso
      subst e1
      simp only [upd_same, upd_other _ _ e2] at h1 h2
      obtain ⟨y, hy⟩ : ∃ y, us[k]? = some y := ⟨_, List.getElem?_eq_getElem hk⟩
      exact hnew b h1 _ _ (hV.rv k y hy) (fun b' hb' => hVJ k b' hk e2 hb') h2
    · exfalso
      subst e2
      simp only [upd_same, upd_other _ _ e1] at h1 h2
      obtain ⟨y, hy⟩ : ∃ y, us[j]? = some y := ⟨_, List.getElem?_eq_getElem hj⟩
      exact hnew b h2 _ _ (hV.rv j y hy) (fun b' hb' => hVJ j b' hj e1 hb') h1
    · simp only [upd_other _ _ e1, upd_other _ _ e2] at h1 h2
      exact hV.dw j k b hj hk h1 h2
  · rw [List.length_set] at hj hk
    by_cases e1 : k = i
    · subst e1
      simp only [upd_same] at h2
      obtain ⟨y, hy⟩ : ∃ y, us[j]? = some y := ⟨_, List.getElem?_eq_getElem hj⟩
      exact hnew b h2 _ _ (hV.ra j y hy) (fun b' hb' => hVO j y b' hy hb') h1
    · simp only [upd_other _ _ e1] at h2
      exact hV.dd j k b hj hk h1 h2
  · rw [hs5]
    rcases hb with hb | rfl
    · have := hV.lt b hb; omega
    · exact hglt
  · rcases hb with hb | rfl
    · exact .inl hb
    · rcases hat with e | e
      · exact .inl (hV.pw i _ hil e)
      · exact .inr (by have := hB.size; omega)
  · exact ((Fr.of_below (S := P) hB).grown hgrow (fun b e => .inl (hV.pw i b hil e))).set ⟨g, i * 3 + 2, none⟩ nv (.inl (hV.ps g rfl))
end Go.Proofs.Ytdgdfpgekccibab
