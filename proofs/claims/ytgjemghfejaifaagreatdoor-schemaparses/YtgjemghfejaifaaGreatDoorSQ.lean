import Derived.Test.YtgjemghfejaifaaGreatDoorSP
/-! schema: Parse of every Value. -/
namespace Go.Proofs.YtgjemghfejaifaaGreatDoor
open Go Go.RowKit

theorem schemaOk (w0 : World) (t : Tr) : SchemaOk w0 t := by
  intro d n br m u w hd hn hV hS hN hE hR
  refine schema_any w0 t (hid_of fun t' ht' => ⟨?_, fun t'' ht'' => ?_⟩) d n br m u w hd hn hV (hid_of hS) (hid_of hN) (hid_of hE) (hid_of hR)
  · have h1 : SizeOf.sizeOf t' < SizeOf.sizeOf t.items := List.sizeOf_lt_of_mem ht'
    have h2 : SizeOf.sizeOf t.items < SizeOf.sizeOf t := by obtain ⟨k, x, s, ns, its⟩ := t; simp only [Tr.items, Tr.node.sizeOf_spec]; omega
    exact schemaOk w0 t'
  · have h1 : SizeOf.sizeOf t' < SizeOf.sizeOf t.items := List.sizeOf_lt_of_mem ht'
    have h2 : SizeOf.sizeOf t.items < SizeOf.sizeOf t := by obtain ⟨k, x, s, ns, its⟩ := t; simp only [Tr.items, Tr.node.sizeOf_spec]; omega
    have h3 : SizeOf.sizeOf t'' < SizeOf.sizeOf t'.items := List.sizeOf_lt_of_mem ht''
    have h4 : SizeOf.sizeOf t'.items < SizeOf.sizeOf t' := by obtain ⟨k, x, s, ns, its⟩ := t'; simp only [Tr.items, Tr.node.sizeOf_spec]; omega
    exact schemaOk w0 t''
termination_by SizeOf.sizeOf t
decreasing_by all_goals omega
mutual
theorem names_of : (d : Nat) → (t : Tr) → checkT d t = 0 → NamesT t
  | d, .node k x s ns its, h => by
    rw [checkT] at h
    unfold NamesT
    by_cases ha : aloneT d k x s ns.length its.length = 0
    · rw [if_pos ha] at h
      have h6 := (aloneT_ok ha).2.2.2.2.2
      by_cases hk : k = 6
      · rw [if_pos hk] at h
        exact ⟨h6, members_of (d + 1) [] ns its (h6 hk) h⟩
      · rw [if_neg hk] at h
        exact ⟨h6, items_of (d + 1) its h⟩
    · rw [if_neg ha] at h
      exact absurd h ha
theorem items_of : (d : Nat) → (its : List Tr) → itemsT d its = 0 → NamesL its
  | _, [], _ => by unfold NamesL; trivial
  | d, t :: ts, h => by
    rw [itemsT] at h
    unfold NamesL
    by_cases hc : checkT d t = 0
    · rw [if_pos hc] at h
      exact ⟨names_of d t hc, items_of d ts h⟩
    · rw [if_neg hc] at h
      exact absurd h hc
theorem members_of : (d : Nat) → (had ns : List ByteArray) → (its : List Tr) → ns.length = its.length → membersT d had ns its = 0 → NamesL its
  | _, _, _, [], _, _ => by unfold NamesL; trivial
  | _, _, [], _ :: _, hl, _ => by simp at hl
  | d, had, n :: ns, t :: ts, hl, h => by
    rw [membersT] at h
    unfold NamesL
    split at h
    · simp at h
    split at h
    · simp at h
    split at h
    · rename_i hc
      exact ⟨names_of d t hc, members_of d (had ++ [n]) ns ts (by simpa using hl) h⟩
    · rename_i hc
      exact absurd h hc
end
theorem check_any (t : Tr) (u : V5) (w : World) (hV : VRep w t u.cs) (hS : SmallT t) (hU : Lib.Utf8Tabs 1 2 w) (h8 : 3 ≤ w.heap.size) :
    Calls Tryz.prog 17 #[u.v] w fun e w' => e = .returned (.int .i64 (checkT 0 t)) ∧ Below w.heap.size w w' := by
  have hB : ∀ o, Below w.heap.size w (w.alloc o) := fun o => (Below.refl _ _).alloc (Nat.le_refl _) _
  have hcall := fun o => hid_e (check_deep t 0 _ (w.alloc o) (by omega) (VRep.keep (hB o) _ _ hV) hS (utf_below hU (hB o) h8) (by rw [World.size_alloc]; omega))
  obtain ⟨c, hc⟩ : ∃ c, Hid (checkT 0 t = c) := ⟨_, hid_e rfl⟩
  rw [hc.out] at hcall ⊢
  unfold V5.cs five at hcall
  unfold V5.v
  go_enter Tryz.func17, Tryz.ntmps17
  go_wp2_with fail
  go_fit (hcall _).out
  rintro e w1 ⟨rfl, hb1⟩
  go_wp2_with fail
  go_ret
  exact ⟨rfl, below_box hb1⟩

/-- What Parse tells of a tree. -/
def parseZ (t : Tr) : Int := if checkT 0 t = 0 then (schemaS 0 0 t).2 else checkT 0 t
/-- A schema that was read. -/
def SchemaAt (w w' : World) (t : Tr) (p : Value) : Prop := ∃ b a c, p = .pointer (some ⟨b, 0, none⟩) ∧ w.heap.size ≤ b ∧ w'.heap[b]? = some (.cells #[.slice a t.items.length c, .int .i64 ((schemaS 0 0 t).1 : Int)] 54 (0, 0)) ∧ RowR w' (fun k => w.heap.size ≤ k ∧ k < w'.heap.size) a t.names t.items
structure ParsePost (w : World) (t : Tr) (e : Ending) (w' : World) : Prop where
  below : Below w.heap.size w w'
  ret : ∃ p, e = .returned (.tuple #[p, .int .i64 (parseZ t)]) ∧ (parseZ t ≠ 0 → p = .pointer none) ∧ (parseZ t = 0 → SchemaAt w w' t p)
set_option maxHeartbeats 4000000 in
set_option maxRecDepth 100000 in
theorem parse_any (t : Tr) (u : V5) (w : World) (hV : Hid (VRep w t u.cs)) (hS : Hid (SmallT t)) (hU : Hid (Lib.Utf8Tabs 1 2 w)) (hT : Hid (TysAt w)) (h8 : 3 ≤ w.heap.size) :
    Calls Tryz.prog 7 #[u.v] w (ParsePost w t) := by
  have hB0 := hid_of ((Below.refl _ w).alloc (Nat.le_refl _) (u.obj 25))
  obtain ⟨x0, x1, x2, x3, x4, -⟩ := row_cells (heap_alloc_new w (u.obj 25))
  have hck := hid_of (check_any t u (w.alloc (u.obj 25)) (VRep.keep hB0.out _ _ hV.out) hS.out (utf_below hU.out hB0.out h8) (by rw [World.size_alloc]; omega))
  have hT0 : Hid (0 < w.heap.size) := lt_of_cell (hT.out 0 (by decide))
  obtain ⟨c, hc⟩ : ∃ c, Hid (checkT 0 t = c) := ⟨_, rfl⟩
  rw [hc.out] at hck
  unfold V5.obj at *
  unfold V5.v at *
  go_enter Tryz.func7, Tryz.ntmps7
  go_wp2_with fail
  generalize w.alloc (.cells #[.int .i64 u.k, .int .i64 u.x, .string u.s, .slice u.an u.ln u.cn, .slice u.ai u.li u.ci] 25) = X0 at *
  refine hck.out.mono ?_
  rintro e W1 ⟨rfl, hb1⟩
  have y0 := stay hb1 x0; have y1 := stay hb1 x1; have y2 := stay hb1 x2; have y3 := stay hb1 x3; have y4 := stay hb1 x4
  have hB1 := hid_of (hB0.out.trans (hb1.mono hB0.out.size))
  clear x0 x1 x2 x3 x4 hck hb1
  by_cases h0 : c = 0
  · subst h0
    have hNm := hid_of (names_of 0 t hc.out)
    have hpz : Hid (parseZ t = (schemaS 0 0 t).2) := by rw [Hid]; unfold parseZ; rw [if_pos hc.out]
    go_wp2_with fail
    refine (makers_any _).mono ?_
    rintro e W2 ⟨hb2, m, b0, b1, b2, b3, b4, b5, b6, rfl, hm, g0, g1, g2, g3, g4, g5, g6, hTab⟩
    have hB2 := hid_of (hB1.out.trans (hb2.mono hB1.out.size))
    have hO3 := hid_of ((Below.refl W2.heap.size W2).alloc (Nat.le_refl _) (.cells #[.map (some m), .int .i64 0] 48))
    have q0 := stay hO3.out (stay hb2 y0); have q1 := stay hO3.out (stay hb2 y1); have q2 := stay hO3.out (stay hb2 y2); have q3 := stay hO3.out (stay hb2 y3); have q4 := stay hO3.out (stay hb2 y4)
    have hE3 : Hid (EnvS w (W2.alloc (.cells #[.map (some m), .int .i64 0] 48)) W2.heap.size m) := by
      have e0 := lt_of_cell hTab.x0.two; have e1 := lt_of_cell hTab.x1.two; have e2 := lt_of_cell hTab.x2.two; have e3 := lt_of_cell hTab.x3.two; have e4 := lt_of_cell hTab.x4.two; have e5 := lt_of_cell hTab.x5.two; have e6 := lt_of_cell hTab.x6.two
      have hB3 := hB2.out.trans (hO3.out.mono hB2.out.size)
      exact ⟨⟨⟨b0, b1, b2, b3, b4, b5, b6, hTab.keep (fun k hk => hO3.out.block k hk), e0, e1, e2, e3, e4, e5, e6⟩, (Array.getElem?_eq_some_iff.1 hTab.map).1⟩, hT.out.keep (hB3.block _ hT0.out), Nat.lt_of_lt_of_le hT0.out hB2.out.size, hB2.out.size, hB3⟩
    have hR3 : Hid (ReaderAt (W2.alloc (.cells #[.map (some m), .int .i64 0] 48)) W2.heap.size m 0) := heap_alloc_new W2 _
    have hcall := hid_of (schemaOk w t 0 0 W2.heap.size m u _ (by decide) (by decide) hV.out hS.out hNm.out hE3.out hR3.out)
    unfold V5.v at hcall
    have hszw := hid_of hB2.out.size
    have hszX := hid_of (show w.heap.size < W2.heap.size from Nat.lt_of_lt_of_le (Nat.lt_of_lt_of_le (lt_of_cell y0) hb2.size) (Nat.le_refl _))
    clear hb2 y0 y1 y2 y3 y4 g0 g1 g2 g3 g4 g5 g6 hm hTab
    go_wp2_with fail
    obtain ⟨br, hbr⟩ : ∃ br, Hid (W2.heap.size = br) := ⟨_, rfl⟩
    rw [hbr.out] at hcall hE3 hR3 hszw hszX ⊢
    generalize W2.alloc (.cells #[.map (some m), .int .i64 0] 48) = W3 at *
    refine hcall.out.mono ?_
    rintro e W4 hP
    obtain ⟨a1, l1, c1, rfl, hret⟩ := hP.ret
    have hB4 := hid_of (hE3.out.old.trans (hP.fr.below hE3.out.old.size (fun i e => by subst e; exact hszw.out)))
    have hrd := hP.rd.cells.2.1
    have hsz3 := hid_of hE3.out.old.size
    have hsz4 := hid_of hP.fr.size
    replace hret := hid_of hret
    rw [← hpz.out] at hret ⊢
    obtain ⟨z, hz⟩ : ∃ z, Hid (parseZ t = z) := ⟨_, rfl⟩
    rw [hz.out] at hret ⊢
    clear hP hcall q0 q1 q2 q3 q4
    by_cases hz0 : z = 0
    · subst hz0
      obtain ⟨hl1, hRow⟩ := hret.out rfl
      subst hl1
      have hnew := hid_of (heap_alloc_new W4 (.cells #[.slice a1 t.items.length c1, .int .i64 ((schemaS 0 0 t).1 : Int)] 54))
      have hB5 := hid_of (hB4.out.alloc hB4.out.size (.cells #[.slice a1 t.items.length c1, .int .i64 ((schemaS 0 0 t).1 : Int)] 54))
      have hRow5 := hid_of (hRow.keep (w' := W4.alloc (.cells #[.slice a1 t.items.length c1, .int .i64 ((schemaS 0 0 t).1 : Int)] 54)) (T := fun k => w.heap.size ≤ k ∧ k < (W4.alloc (.cells #[.slice a1 t.items.length c1, .int .i64 ((schemaS 0 0 t).1 : Int)] 54)).heap.size) (fun k hk hlt => Below.heap_alloc _ _ _ hlt) (fun k hk => ⟨by have := hsz3.out; omega, by rw [World.size_alloc]; omega⟩))
      obtain ⟨nn, hnn⟩ : ∃ nn, Hid (((schemaS 0 0 t).1 : Int) = nn) := ⟨_, rfl⟩
      rw [hnn.out] at hnew hB5 hRow5 hrd
      clear hret hRow
      go_wp2_with fail
      go_ret2
      refine ⟨hB5.out, .pointer (some ⟨W4.heap.size, 0, none⟩), ?_, fun e => absurd hz.out e, fun _ => ⟨W4.heap.size, a1, c1, rfl, ?_, ?_, hRow5.out⟩⟩
      · rw [hz.out]; rfl
      · have h1 := hsz3.out; have h2 := hsz4.out; omega
      · rw [hnn.out]; exact hnew.out
    · have hb0 : (z != 0) = true := by simpa using hz0
      have hz0' : Hid (¬ z = 0) := hz0
      clear hz0 hret
      go_wp2_with fail
      go_ret2
      refine ⟨hB4.out, .pointer none, ?_, fun _ => rfl, fun e => ?_⟩
      · rw [hz.out]; rfl
      · rw [hz.out] at e; exact absurd e hz0'.out
  · have hb0 : (c != 0) = true := by simpa using h0
    have hpz : Hid (parseZ t = c) := by rw [Hid]; unfold parseZ; rw [hc.out, if_neg h0]
    have h0' : Hid (¬ c = 0) := h0
    clear h0
    go_wp2_with fail
    go_ret2
    refine ⟨hB1.out, .pointer none, ?_, fun _ => rfl, fun e => ?_⟩
    · rw [hpz.out]; rfl
    · rw [hpz.out] at e; exact absurd e h0'.out
end Go.Proofs.YtgjemghfejaifaaGreatDoor
