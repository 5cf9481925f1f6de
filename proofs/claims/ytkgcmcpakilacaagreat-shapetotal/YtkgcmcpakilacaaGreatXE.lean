import Derived.Test.YtkgcmcpakilacaaGreatXD
import Derived.Test.YtkgcmcpakilacaaGreatLC
import Derived.Deep.RegionHeld3
/-! A nil Sort: no keys, documents by their Ids. -/
namespace Go.Proofs.YtkgcmcpakilacaaGreat.Tree
open Go Go.RowKit Go.Stab

theorem cmpS_lex (a b : ByteArray) : cmpS a b = lex (encS a.data.toList) (encS b.data.toList) := by
  have := lex_S a.data.toList b.data.toList [] []
  simp only [List.append_nil] at this
  rw [this]
  show _ = both (cmpS a b) _
  unfold both
  split
  · rfl
  · rename_i h
    have e : cmpS a b = 0 := by simpa using h
    rw [e]
    rfl
theorem cmpS_anti (a b : ByteArray) : cmpS a b = - cmpS b a := by rw [cmpS_lex, cmpS_lex]; exact lex_anti _ _
theorem cmpS_trans (a b c : ByteArray) (h1 : cmpS a b ≤ 0) (h2 : cmpS b c ≤ 0) : cmpS a c ≤ 0 := by rw [cmpS_lex] at *; exact lex_trans _ _ _ h1 h2
def ltId (x y : Dc) : Bool := decide (cmpS x.id y.id < 0)
theorem swoId : Swo ltId where
  irr x := by unfold ltId; have := cmpS_anti x.id x.id; exact decide_eq_false (by omega)
  tr x y z h1 h2 := by
    unfold ltId at *
    have a1 := of_decide_eq_true h1
    have a2 := of_decide_eq_true h2
    refine decide_eq_true ?_
    have h3 := cmpS_trans x.id y.id z.id (by omega) (by omega)
    rcases Int.lt_or_le (cmpS x.id z.id) 0 with h | h
    · exact h
    · have e1 := cmpS_anti x.id z.id
      have e2 := cmpS_anti x.id y.id
      have h4 := cmpS_trans y.id z.id x.id (by omega) (by omega)
      omega
  neg x y z h1 h2 := by
    unfold ltId at *
    have a1 := of_decide_eq_false h1
    have a2 := of_decide_eq_false h2
    have e1 := cmpS_anti x.id y.id
    have e2 := cmpS_anti y.id z.id
    have e3 := cmpS_anti x.id z.id
    have := cmpS_trans z.id y.id x.id (by omega) (by omega)
    exact decide_eq_false (by omega)
theorem count_nil (w : World) : Calls Tryz.prog 35 #[.pointer none] w fun e w' => e = .returned (.int .i64 0) ∧ w' = w := by
  go_enter Tryz.func35, Tryz.ntmps35
  go_wp2
  go_ret
  exact ⟨rfl, rfl⟩
theorem mk_none (w : World) : (Instr.makeSlice 23 (.int .i64 0) (.int .i64 0)).run Tryz.prog w = .ok (.slice (some ⟨w.heap.size, 0, none⟩) 0 0) (w.alloc (.cells #[] 25)) := by kernel_rfl
set_option maxHeartbeats 4000000 in
set_option maxRecDepth 100000 in
theorem keyed_nil (d : Dc) (w : World) : Calls Tryz.prog 38 #[.pointer none, .agg d.cells.toArray] w fun e w' => ∃ q : Kd, e = .returned (.agg q.cells.toArray) ∧ q.d = d ∧ True ∧ Below w.heap.size w w' := by
  unfold Dc.cells
  have HB : Below w.heap.size w (((w.alloc (.cells #[.string d.id, .int .i64 d.ver, .int .i64 d.k, .int .i64 d.x, .string d.s, .slice d.an d.ln d.cn, .slice d.ai d.li d.ci] 50)).alloc zero8).alloc (.cells #[] 25)) := (((Below.refl _ w).alloc (Nat.le_refl _) _).alloc (by simp) _).alloc (by simp; omega) _
  have m1 := (Below.heap_alloc ((w.alloc (.cells #[.string d.id, .int .i64 d.ver, .int .i64 d.k, .int .i64 d.x, .string d.s, .slice d.an d.ln d.cn, .slice d.ai d.li d.ci] 50)).alloc zero8) (.cells #[] 25) w.heap.size (by simp; omega)).trans (new1 w _ _)
  have m2 := (Below.heap_alloc ((w.alloc (.cells #[.string d.id, .int .i64 d.ver, .int .i64 d.k, .int .i64 d.x, .string d.s, .slice d.an d.ln d.cn, .slice d.ai d.li d.ci] 50)).alloc zero8) (.cells #[] 25) (w.heap.size + 1) (by simp)).trans (new2 w _ _)
  have hmk := mk_none ((w.alloc (.cells #[.string d.id, .int .i64 d.ver, .int .i64 d.k, .int .i64 d.x, .string d.s, .slice d.an d.ln d.cn, .slice d.ai d.li d.ci] 50)).alloc zero8)
  have hsz : ((w.alloc (.cells #[.string d.id, .int .i64 d.ver, .int .i64 d.k, .int .i64 d.x, .string d.s, .slice d.an d.ln d.cn, .slice d.ai d.li d.ci] 50)).alloc zero8).heap.size = w.heap.size + 2 := by simp
  rw [hsz] at hmk
  clear hsz
  unfold zero8 at HB m1 m2 hmk
  obtain ⟨X, hX⟩ : ∃ X, Hid (((w.alloc (.cells #[.string d.id, .int .i64 d.ver, .int .i64 d.k, .int .i64 d.x, .string d.s, .slice d.an d.ln d.cn, .slice d.ai d.li d.ci] 50)).alloc (.cells #[.string ⟨#[]⟩, .int .i64 0, .int .i64 0, .int .i64 0, .string ⟨#[]⟩, .slice none 0 0, .slice none 0 0, .slice none 0 0] 74)).alloc (.cells #[] 25) = X) := ⟨_, rfl⟩
  rw [hX.out] at HB m1 m2 hmk
  have d0 : X.cell? ⟨w.heap.size, 0, none⟩ = some (.string d.id) := by simp [World.cell?, m1]
  have d1 : X.cell? ⟨w.heap.size, 1, none⟩ = some (.int .i64 d.ver) := by simp [World.cell?, m1]
  have d2 : X.cell? ⟨w.heap.size, 2, none⟩ = some (.int .i64 d.k) := by simp [World.cell?, m1]
  have d3 : X.cell? ⟨w.heap.size, 3, none⟩ = some (.int .i64 d.x) := by simp [World.cell?, m1]
  have d4 : X.cell? ⟨w.heap.size, 4, none⟩ = some (.string d.s) := by simp [World.cell?, m1]
  have d5 : X.cell? ⟨w.heap.size, 5, none⟩ = some (.slice d.an d.ln d.cn) := by simp [World.cell?, m1]
  have d6 : X.cell? ⟨w.heap.size, 6, none⟩ = some (.slice d.ai d.li d.ci) := by simp [World.cell?, m1]
  obtain ⟨r0, r1, r2, r3, r4, r5, r6, r7, rf⟩ := row8_cells m2
  have rf0 := rf 0; have rf1 := rf 1; have rf2 := rf 2; have rf3 := rf 3; have rf4 := rf 4; have rf5 := rf 5; have rf6 := rf 6; have rf7 := rf 7
  have hr := put8_cells m2 (.string d.id) (.int .i64 d.ver) (.int .i64 d.k) (.int .i64 d.x) (.string d.s) (.slice d.an d.ln d.cn) (.slice d.ai d.li d.ci) (.slice (some ⟨w.heap.size + 2, 0, none⟩) 0 0)
  have q0 := hr 0; have q1 := hr 1; have q2 := hr 2; have q3 := hr 3; have q4 := hr 4; have q5 := hr 5; have q6 := hr 6; have q7 := hr 7
  have hB8 := hid_e (HB.trans (put8_below (w := X) (g := w.heap.size + 1) (B := w.heap.size) (by omega) (.string d.id) (.int .i64 d.ver) (.int .i64 d.k) (.int .i64 d.x) (.string d.s) (.slice d.an d.ln d.cn) (.slice d.ai d.li d.ci) (.slice (some ⟨w.heap.size + 2, 0, none⟩) 0 0)))
  replace HB := hid_e HB
  clear hr rf m1 m2
  replace q0 := hid_e q0; replace q1 := hid_e q1; replace q2 := hid_e q2; replace q3 := hid_e q3; replace q4 := hid_e q4; replace q5 := hid_e q5; replace q6 := hid_e q6; replace q7 := hid_e q7
  go_enter Tryz.func38, Tryz.ntmps38
  go_wp2_with (first | (go_at_call 35; refine (count_nil _).mono ?_; rintro e X1 ⟨rfl, rfl⟩) | rw [hX.out])
  refine wp_loop_rounds 1 ?_
  rw [rounds_succ]
  go_wp2_with fail
  have q0 := q0.out; have q1 := q1.out; have q2 := q2.out; have q3 := q3.out; have q4 := q4.out; have q5 := q5.out; have q6 := q6.out; have q7 := q7.out
  refine bodyPost_ret (v := .agg (⟨d, some ⟨w.heap.size + 2, 0, none⟩, 0, 0⟩ : Kd).cells.toArray) (by unfold Kd.cells; simp [results, Tryz.results38, go_sem, q0, q1, q2, q3, q4, q5, q6, q7]) rfl ?_
  exact ⟨⟨d, some ⟨w.heap.size + 2, 0, none⟩, 0, 0⟩, rfl, rfl, trivial, hB8.out⟩
set_option maxHeartbeats 4000000 in
set_option maxRecDepth 100000 in
theorem compare_nil (x y : Kd) (w : World) : Calls Tryz.prog 40 #[.pointer none, .agg x.cells.toArray, .agg y.cells.toArray] w fun e w' => e = .returned (.int .i64 (cmpS x.d.id y.d.id)) ∧ Below w.heap.size w w' := by
  unfold Kd.cells
  have HB : ∀ o o', Below w.heap.size w ((w.alloc o).alloc o') := fun o o' => ((Below.refl _ w).alloc (Nat.le_refl _) o).alloc (by simp) o'
  replace HB := hid_e HB
  go_enter Tryz.func40, Tryz.ntmps40
  go_wp2_with (go_at_call 35; refine (count_nil _).mono ?_; rintro e X1 ⟨rfl, rfl⟩)
  refine wp_loop_rounds 1 ?_
  rw [rounds_succ]
  go_wp2_with (go_at_call 63; refine (cmpStr _ _ _).mono ?_; rintro e X1 ⟨rfl, rfl⟩)
  go_ret
  exact ⟨rfl, HB.out _ _⟩
/-- Order by a nil Sort. -/
theorem order_nil (a : Option Addr) (c n : Nat) (ds : List Dc) (w : World) (hn : ds.length = n) (hnn : n ≤ 1000000) (hV : DocsAt w a ds) :
    Calls Tryz.prog 15 #[.pointer none, .slice a n c] w fun e w' => ∃ ob, e = .returned (.slice (some ⟨ob, 0, none⟩) n n) ∧ DocsAt w' (some ⟨ob, 0, none⟩) (isort ltId ds) ∧ Below w.heap.size w w' :=
  order_any (.pointer none) a c n ds w ltId swoId (fun x y => cmpS x.id y.id) (fun _ _ => rfl) (fun _ _ => True) (fun _ _ _ _ _ => trivial) (fun d _ W _ _ => keyed_nil d W) (fun x y W _ _ _ => compare_nil x y W) hn hnn hV
end Go.Proofs.YtkgcmcpakilacaaGreat.Tree
/-! ShapeNil. -/
namespace Go.Proofs.YtkgcmcpakilacaaGreat.Tree
open Go Go.RowKit Go.Stab

theorem cb_less : ∀ (a b : List UInt8), (Lib.compareBytes a b < 0 ↔ Op.bytesLess a b = true) ∧ (Lib.compareBytes a b = 0 ↔ a = b)
  | [], [] => by simp [Lib.compareBytes, Op.bytesLess]
  | [], _ :: _ => by simp [Lib.compareBytes, Op.bytesLess]
  | _ :: _, [] => by simp [Lib.compareBytes, Op.bytesLess]
  | x :: a, y :: b => by
    obtain ⟨h1, h2⟩ := cb_less a b
    unfold Lib.compareBytes Op.bytesLess
    by_cases hx : x < y
    · have hne : x ≠ y := fun e => by subst e; exact absurd hx (UInt8.lt_irrefl x)
      simp [hx, hne]
    · by_cases hy : y < x
      · have hne : x ≠ y := fun e => by subst e; exact absurd hy (UInt8.lt_irrefl x)
        simp [hx, hy, hne]
      · have e : x = y := UInt8.le_antisymm (UInt8.not_lt.1 hy) (UInt8.not_lt.1 hx)
        subst e
        simp [hx]
        exact ⟨h1, h2⟩
theorem cmpS_range (a b : ByteArray) : cmpS a b = -1 ∨ cmpS a b = 0 ∨ cmpS a b = 1 := by rw [cmpS_lex]; exact lex_range _ _
theorem toList_data (a : ByteArray) : a.toList = a.data.toList := by rw [ByteArray.toList_eq]
set_option maxHeartbeats 4000000 in
set_option maxRecDepth 100000 in
theorem rcompare_nil (x y : Dc) (w : World) : Calls Tryz.prog 23 #[.slice none 0 0, .agg x.cells.toArray, .agg y.cells.toArray] w fun e w' => e = .returned (.int .i64 (cmpS x.id y.id)) ∧ Below w.heap.size w w' := by
  unfold Dc.cells
  have HB : ∀ o o', Below w.heap.size w ((w.alloc o).alloc o') := fun o o' => ((Below.refl _ w).alloc (Nat.le_refl _) o).alloc (by simp) o'
  replace HB := hid_e HB
  obtain ⟨h1, h2⟩ := cb_less x.id.data.toList y.id.data.toList
  rw [← toList_data, ← toList_data] at h1 h2
  have e0 : Lib.compareBytes x.id.toList y.id.toList = cmpS x.id y.id := by rw [toList_data, toList_data]; rfl
  rw [e0] at h1 h2
  clear e0
  rcases cmpS_range x.id y.id with hc | hc | hc
  · have hl : Op.bytesLess x.id.toList y.id.toList = true := h1.1 (by omega)
    rw [hc]
    clear h1 h2
    go_enter Tryz.func23, Tryz.ntmps23
    go_wp2_with fail
    refine wp_loop_rounds 1 ?_
    rw [rounds_succ]
    go_wp2_with fail
    go_ret
    exact ⟨rfl, HB.out _ _⟩
  · have hl : Op.bytesLess x.id.toList y.id.toList = false := by
      cases h : Op.bytesLess x.id.toList y.id.toList with
      | false => rfl
      | true => have := h1.2 h; omega
    have he : (x.id.toList == y.id.toList) = true := by rw [h2.1 hc]; simp
    rw [hc]
    clear h1 h2
    go_enter Tryz.func23, Tryz.ntmps23
    go_wp2_with fail
    refine wp_loop_rounds 1 ?_
    rw [rounds_succ]
    go_wp2_with fail
    go_ret
    exact ⟨rfl, HB.out _ _⟩
  · have hl : Op.bytesLess x.id.toList y.id.toList = false := by
      cases h : Op.bytesLess x.id.toList y.id.toList with
      | false => rfl
      | true => have := h1.2 h; omega
    have he : (x.id.toList == y.id.toList) = false := by
      cases h : (x.id.toList == y.id.toList) with
      | false => rfl
      | true => have := h2.2 (by simpa using h); omega
    rw [hc]
    clear h1 h2
    go_enter Tryz.func23, Tryz.ntmps23
    go_wp2_with fail
    refine wp_loop_rounds 1 ?_
    rw [rounds_succ]
    go_wp2_with fail
    go_ret
    exact ⟨rfl, HB.out _ _⟩
set_option maxHeartbeats 2000000 in
set_option maxRecDepth 100000 in
theorem apply_nil (k x : Int) (s : ByteArray) (an : Option Addr) (ln cn : Nat) (ai : Option Addr) (li ci : Nat) (w : World) : Calls Tryz.prog 12 #[.pointer none, .agg #[.int .i64 k, .int .i64 x, .string s, .slice an ln cn, .slice ai li ci]] w fun e w' => e = .returned (.agg #[.int .i64 k, .int .i64 x, .string s, .slice an ln cn, .slice ai li ci]) ∧ Below w.heap.size w w' := by
  have n1 := new1 w (.cells #[.int .i64 k, .int .i64 x, .string s, .slice an ln cn, .slice ai li ci] 25) (.cells #[.int .i64 0, .int .i64 0, .string ⟨#[]⟩, .slice none 0 0, .slice none 0 0] 25)
  have n2 := new2 w (.cells #[.int .i64 k, .int .i64 x, .string s, .slice an ln cn, .slice ai li ci] 25) (.cells #[.int .i64 0, .int .i64 0, .string ⟨#[]⟩, .slice none 0 0, .slice none 0 0] 25)
  have HB : Below w.heap.size w ((w.alloc (.cells #[.int .i64 k, .int .i64 x, .string s, .slice an ln cn, .slice ai li ci] 25)).alloc (.cells #[.int .i64 0, .int .i64 0, .string ⟨#[]⟩, .slice none 0 0, .slice none 0 0] 25)) := ((Below.refl _ w).alloc (Nat.le_refl _) _).alloc (by simp) _
  obtain ⟨X, hX⟩ : ∃ X, Hid ((w.alloc (.cells #[.int .i64 k, .int .i64 x, .string s, .slice an ln cn, .slice ai li ci] 25)).alloc (.cells #[.int .i64 0, .int .i64 0, .string ⟨#[]⟩, .slice none 0 0, .slice none 0 0] 25) = X) := ⟨_, rfl⟩
  rw [hX.out] at n1 n2 HB
  obtain ⟨a0, a1, a2, a3, a4, -⟩ := row_cells n1
  obtain ⟨b0, b1, b2, b3, b4, bf⟩ := row_cells n2
  have bf0 := bf 0; have bf1 := bf 1; have bf2 := bf 2; have bf3 := bf 3; have bf4 := bf 4
  have hr5 := put5_cells n2 (.int .i64 k) (.int .i64 x) (.string s) (.slice an ln cn) (.slice ai li ci)
  have r0 := hid_e (hr5 0); have r1 := hid_e (hr5 1); have r2 := hid_e (hr5 2); have r3 := hid_e (hr5 3); have r4 := hid_e (hr5 4)
  have hB5 := hid_e (HB.trans (put5_below (w := X) (g := w.heap.size + 1) (B := w.heap.size) (by omega) (.int .i64 k) (.int .i64 x) (.string s) (.slice an ln cn) (.slice ai li ci)))
  replace HB := hid_e HB
  clear hr5 bf n1 n2
  go_enter Tryz.func12, Tryz.ntmps12
  go_wp2_with (first | rw [hX.out] | fail)
  have r0 := r0.out; have r1 := r1.out; have r2 := r2.out; have r3 := r3.out; have r4 := r4.out
  refine bodyPost_ret (v := .agg #[.int .i64 k, .int .i64 x, .string s, .slice an ln cn, .slice ai li ci]) (by simp [results, Tryz.results12, go_sem, r0, r1, r2, r3, r4]) rfl ?_
  exact ⟨rfl, hB5.out⟩
set_option maxHeartbeats 2000000 in
set_option maxRecDepth 100000 in
theorem key_nil (k x : Int) (s : ByteArray) (an : Option Addr) (ln cn : Nat) (ai : Option Addr) (li ci : Nat) (w : World) : Calls Tryz.prog 13 #[.pointer none, .agg #[.int .i64 k, .int .i64 x, .string s, .slice an ln cn, .slice ai li ci], .int .i64 0] w fun e w' => e = .returned (.agg #[.int .i64 0, .int .i64 0, .string ⟨#[]⟩, .slice none 0 0, .slice none 0 0]) ∧ Below w.heap.size w w' := by
  have n2 := new2 w (.cells #[.int .i64 k, .int .i64 x, .string s, .slice an ln cn, .slice ai li ci] 25) (.cells #[.int .i64 0, .int .i64 0, .string ⟨#[]⟩, .slice none 0 0, .slice none 0 0] 25)
  have HB : Below w.heap.size w ((w.alloc (.cells #[.int .i64 k, .int .i64 x, .string s, .slice an ln cn, .slice ai li ci] 25)).alloc (.cells #[.int .i64 0, .int .i64 0, .string ⟨#[]⟩, .slice none 0 0, .slice none 0 0] 25)) := ((Below.refl _ w).alloc (Nat.le_refl _) _).alloc (by simp) _
  obtain ⟨X, hX⟩ : ∃ X, Hid ((w.alloc (.cells #[.int .i64 k, .int .i64 x, .string s, .slice an ln cn, .slice ai li ci] 25)).alloc (.cells #[.int .i64 0, .int .i64 0, .string ⟨#[]⟩, .slice none 0 0, .slice none 0 0] 25) = X) := ⟨_, rfl⟩
  rw [hX.out] at n2 HB
  obtain ⟨b0, b1, b2, b3, b4, bf⟩ := row_cells n2
  have bf0 := bf 0; have bf1 := bf 1; have bf2 := bf 2; have bf3 := bf 3; have bf4 := bf 4
  have hr5 := put5_cells n2 (.int .i64 0) (.int .i64 0) (.string ⟨#[]⟩) (.slice none 0 0) (.slice none 0 0)
  have r0 := hid_e (hr5 0); have r1 := hid_e (hr5 1); have r2 := hid_e (hr5 2); have r3 := hid_e (hr5 3); have r4 := hid_e (hr5 4)
  have hB5 := hid_e (HB.trans (put5_below (w := X) (g := w.heap.size + 1) (B := w.heap.size) (by omega) (.int .i64 0) (.int .i64 0) (.string ⟨#[]⟩) (.slice none 0 0) (.slice none 0 0)))
  replace HB := hid_e HB
  clear hr5 bf n2
  go_enter Tryz.func13, Tryz.ntmps13
  go_wp2_with (first | (go_at_call 35; refine (count_nil _).mono ?_; rintro e X1 ⟨rfl, rfl⟩) | rw [hX.out] | fail)
  have r0 := r0.out; have r1 := r1.out; have r2 := r2.out; have r3 := r3.out; have r4 := r4.out
  refine bodyPost_ret (v := .agg #[.int .i64 0, .int .i64 0, .string ⟨#[]⟩, .slice none 0 0, .slice none 0 0]) (by simp [results, Tryz.results13, go_sem, r0, r1, r2, r3, r4]) rfl ?_
  exact ⟨rfl, hB5.out⟩
end Go.Proofs.YtkgcmcpakilacaaGreat.Tree
