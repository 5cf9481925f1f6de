import Derived.Test.YthebilggokpciaaS1
/-! One turn up, of every value: what it leans on. -/
namespace Go.Proofs.Ythebilggokpciaa
open Go Go.RowKit

/-- What anew keeps. -/
def keepNs (k : Int) (ns : List ByteArray) (its : List Tr) : List ByteArray := if k = 6 then ns.take (min ns.length its.length) else []
def keepIts (k : Int) (ns : List ByteArray) (its : List Tr) : List Tr := if k = 6 then its.take (min ns.length its.length) else its
/-- A turn, with X as its item. -/
def withT (k : Int) (ns : List ByteArray) (its : List Tr) (sg : ByteArray) (m : Nat) (X : Tr) : Tr :=
  if m < (keepIts k ns its).length then .node k 0 ⟨#[]⟩ (keepNs k ns its) ((keepIts k ns its).set m X)
  else .node k 0 ⟨#[]⟩ (if k = 6 then keepNs k ns its ++ [sg] else []) (keepIts k ns its ++ [X])
theorem five_ones {k x : Int} {s : ByteArray} {an : Option Addr} {ln cn : Nat} {ai : Option Addr} {li ci : Nat} : ∀ v ∈ five k x s (.slice an ln cn) (.slice ai li ci), v.oneCell' = true := by simp [five, Value.oneCell']
theorem ItemsRep.length {W : World} : {ts : List Tr} → {xs : List Value} → ItemsRep W ts xs → xs.length = ts.length * 5
  | [], xs, h => by unfold ItemsRep at h; subst h; rfl
  | t :: ts, xs, h => by
    unfold ItemsRep at h
    obtain ⟨cs, r, rfl, h1, _, h3⟩ := h
    rw [List.length_append, h1, h3.length, List.length_cons]; omega
theorem ItemsRep.ones {W : World} : {ts : List Tr} → {xs : List Value} → ItemsRep W ts xs → ∀ v ∈ xs, v.oneCell' = true
  | [], xs, h => by unfold ItemsRep at h; subst h; simp
  | t :: ts, xs, h => by
    unfold ItemsRep at h
    obtain ⟨cs, r, rfl, h1, h2, h3⟩ := h
    intro v hv
    rcases List.mem_append.1 hv with hv | hv
    · obtain ⟨_, _, _, _, _, _, _, _, _, rfl⟩ := vrep_five h2
      exact five_ones v hv
    · exact h3.ones v hv
theorem ItemsRep.mono {W W' : World} (hk : ∀ p u, W.cell? p = some u → W'.cell? p = some u) (hs : W.heap.size ≤ W'.heap.size) : {ts : List Tr} → {xs : List Value} → ItemsRep W ts xs → ItemsRep W' ts xs
  | [], xs, h => by unfold ItemsRep at *; exact h
  | t :: ts, xs, h => by
    unfold ItemsRep at *
    obtain ⟨cs, r, rfl, h1, h2, h3⟩ := h
    exact ⟨cs, r, rfl, h1, VRep.mono hk hs t cs h2, h3.mono hk hs⟩
theorem ItemsRep.take {W : World} : {ts : List Tr} → {xs : List Value} → (n : Nat) → ItemsRep W ts xs → ItemsRep W (ts.take n) (xs.take (n * 5))
  | [], xs, n, h => by unfold ItemsRep at h; subst h; simp [ItemsRep]
  | t :: ts, xs, 0, h => by simp [ItemsRep]
  | t :: ts, xs, n + 1, h => by
    unfold ItemsRep at h
    obtain ⟨cs, r, rfl, h1, h2, h3⟩ := h
    rw [List.take_succ_cons]
    unfold ItemsRep
    refine ⟨cs, r.take (n * 5), ?_, h1, h2, h3.take n⟩
    rw [List.take_append, h1, List.take_of_length_le (by omega), show (n + 1) * 5 - 5 = n * 5 by omega]
theorem ItemsRep.set {W : World} {X : Tr} {k x : Int} {s : ByteArray} {nm it : Value} (hX : VRep W X (five k x s nm it)) : {ts : List Tr} → {xs : List Value} → (m : Nat) → m < ts.length → ItemsRep W ts xs → ItemsRep W (ts.set m X) (((((xs.set (m * 5) (.int .i64 k)).set (m * 5 + 1) (.int .i64 x)).set (m * 5 + 2) (.string s)).set (m * 5 + 3) nm).set (m * 5 + 4) it)
  | [], xs, m, hm, h => by simp at hm
  | t :: ts, xs, 0, hm, h => by
    unfold ItemsRep at h
    obtain ⟨cs, r, rfl, h1, h2, h3⟩ := h
    obtain ⟨_, _, _, _, _, _, _, _, _, rfl⟩ := vrep_five h2
    rw [List.set_cons_zero]
    unfold ItemsRep
    exact ⟨five k x s nm it, r, rfl, rfl, hX, h3⟩
  | t :: ts, xs, m + 1, hm, h => by
    unfold ItemsRep at h
    obtain ⟨cs, r, rfl, h1, h2, h3⟩ := h
    rw [List.set_cons_succ]
    unfold ItemsRep
    refine ⟨cs, _, ?_, h1, h2, h3.set hX m (by simpa using hm)⟩
    rw [List.set_append_right _ _ (by omega), List.set_append_right _ _ (by omega), List.set_append_right _ _ (by omega), List.set_append_right _ _ (by omega), List.set_append_right _ _ (by omega), h1,
      show (m + 1) * 5 - 5 = m * 5 by omega, show (m + 1) * 5 + 1 - 5 = m * 5 + 1 by omega, show (m + 1) * 5 + 2 - 5 = m * 5 + 2 by omega, show (m + 1) * 5 + 3 - 5 = m * 5 + 3 by omega, show (m + 1) * 5 + 4 - 5 = m * 5 + 4 by omega]
/-- The items of a value, as cells. -/
theorem VRepL.items {w : World} {b : Nat} : (its : List Tr) → (o : Nat) → VRepL w b o its → ∃ xs, ItemsRep w its xs ∧ CellsAt w b o xs
  | [], o, _ => ⟨[], by unfold ItemsRep; rfl, fun j u hj => by simp at hj⟩
  | t :: ts, o, h => by
    unfold VRepL at h
    obtain ⟨cs, h1, h2, h3⟩ := h
    obtain ⟨r, h4, h5⟩ := VRepL.items ts (o + 5) h3
    have hl : cs.length = 5 := by obtain ⟨_, _, _, _, _, _, _, _, _, rfl⟩ := vrep_five h2; rfl
    refine ⟨cs ++ r, by unfold ItemsRep; exact ⟨cs, r, rfl, hl, h2, h4⟩, fun j u hj => ?_⟩
    rcases Nat.lt_or_ge j cs.length with hj' | hj'
    · rw [List.getElem?_append_left hj'] at hj; exact h1 j u hj
    · rw [List.getElem?_append_right hj', hl] at hj
      have := h5 (j - 5) u hj
      rwa [show o + 5 + (j - 5) = o + j by omega] at this
theorem CellsAt.take {w : World} {b o : Nat} {xs : List Value} (h : CellsAt w b o xs) (n : Nat) : CellsAt w b o (xs.take n) := fun j u hj => h j u (by
  rw [List.getElem?_take] at hj
  split at hj
  · exact hj
  · cases hj)
theorem LiesAt.take {w : World} {a : Option Addr} {xs : List Value} (h : LiesAt w a xs) (n : Nat) : LiesAt w a (xs.take n) := by
  rcases h with rfl | ⟨b, o, e, h⟩
  · exact .inl (by simp)
  · exact .inr ⟨b, o, e, h.take n⟩
/-- A value taken apart. -/
theorem VRep.parts {w : World} {k x : Int} {s : ByteArray} {ns : List ByteArray} {its : List Tr} {cs : List Value} (h : VRep w (.node k x s ns its) cs) : ∃ an cn ai ci xs, cs = five k x s (.slice an ns.length cn) (.slice ai its.length ci) ∧ (ns.length ≤ cn ∧ cn ≤ 9223372036854775807) ∧ (its.length ≤ ci ∧ ci ≤ 9223372036854775807) ∧ LiesAt w an (strs ns) ∧ LiesAt w ai xs ∧ ItemsRep w its xs := by
  unfold VRep at h
  obtain ⟨nm, a, c, rfl, ⟨an, cn, rfl, hcn, hN⟩, hc, hI⟩ := h
  have hN' : LiesAt w an (strs ns) := by
    rcases hN with rfl | ⟨b, o, rfl, _, hN⟩
    · exact .inl rfl
    · refine .inr ⟨b, o, rfl, fun j u hj => ?_⟩
      unfold strs at hj
      rw [List.getElem?_map] at hj
      cases hy : ns[j]? with
      | none => rw [hy] at hj; cases hj
      | some y => rw [hy] at hj; cases hj; exact hN j y hy
  rcases hI with rfl | ⟨b, o, rfl, _, hI⟩
  · exact ⟨an, cn, a, c, [], rfl, hcn, hc, hN', .inl rfl, by unfold ItemsRep; rfl⟩
  · obtain ⟨xs, h1, h2⟩ := VRepL.items its o hI
    exact ⟨an, cn, _, c, xs, rfl, hcn, hc, hN', .inr ⟨b, o, rfl, h2⟩, h1⟩
/-- A value put together. -/
theorem vrep_make {W : World} {k : Int} {ns : List ByteArray} {its : List Tr} {nm : Value} {gi ci lo : Nat} {xs : List Value} (hN : Reads W nm ns) (hI : ItemsRep W its xs) (hc : CellsAt W gi 0 xs) (hl : its.length ≤ ci ∧ ci ≤ 9223372036854775807) (hg : gi < W.heap.size) (_ : lo ≤ gi) :
    VRep W (.node k 0 ⟨#[]⟩ ns its) (five k 0 ⟨#[]⟩ nm (.slice (some ⟨gi, 0, none⟩) its.length ci)) := by
  unfold VRep
  exact ⟨nm, _, ci, rfl, hN, hl, .inr ⟨gi, 0, rfl, hg, ItemsRep.list its xs 0 hI hc⟩⟩
theorem strs_take (ns : List ByteArray) (n : Nat) : (strs ns).take n = strs (ns.take n) := by unfold strs; rw [List.map_take]
/-- The row of an answer, as it is read. -/
theorem with_fin {w0 w W : World} {S : Nat → Prop} {k : Int} {ns : List ByteArray} {its : List Tr} {nm : Value} {gi ci : Nat} {xs : List Value} (h0 : Below w0.heap.size w0 w) (hS : ∀ k, k < w0.heap.size → S k) (hB : Below w.heap.size w W)
    (hrow : W.ownsRow w.heap.size 25 5 (.slice (some ⟨gi, 0, none⟩) its.length ci) its.length xs) (hN : SeenR W (fun k => w.heap.size ≤ k) nm ns)
    (hI : ∀ W', (∀ p u, w0.cell? p = some u → W'.cell? p = some u) → w0.heap.size ≤ W'.heap.size → Agree (fun k => S k ∨ w.heap.size ≤ k) W W' → ItemsRep W' its xs) :
    Seen W (fun k => S k ∨ w.heap.size ≤ k) (.node k 0 ⟨#[]⟩ ns its) (five k 0 ⟨#[]⟩ nm (.slice (some ⟨gi, 0, none⟩) its.length ci)) := fun W' ha => by
  obtain ⟨hc, hlt, hge, hle⟩ := owns_cells hrow
  refine vrep_make (lo := 0) (hN W' ⟨ha.1, fun p u hp hc => ha.2 p u (.inr hp) hc⟩) (hI W' (fun p u hc => ?_) (Nat.le_trans h0.size (Nat.le_trans hB.size ha.1)) ha) (fun j u hj => ha.2 _ _ (.inr hge) (hc j u hj)) (row_cap hrow) (Nat.lt_of_lt_of_le hlt ha.1) (Nat.zero_le _)
  have hl := cell_lt hc
  exact ha.2 p u (.inl (hS _ hl)) ((hB.cell (Nat.lt_of_lt_of_le hl h0.size)).trans ((h0.cell hl).trans hc))
end Go.Proofs.Ythebilggokpciaa
/-! One turn up, of every value. -/
namespace Go.Proofs.Ythebilggokpciaa
open Go Go.RowKit

/-- What with answers. -/
def WithPost (w : World) (S : Nat → Prop) (R : Tr) (e : Ending) (w' : World) : Prop :=
  Below w.heap.size w w' ∧ ∃ cs k9 x9 s9 a9 l9 d9 i9 j9 e9, e = .returned (.agg cs.toArray) ∧ cs = five k9 x9 s9 (.slice a9 l9 d9) (.slice i9 j9 e9) ∧ Seen w' (fun k => S k ∨ w.heap.size ≤ k) R cs
theorem anew_any (k x : Int) (tx : ByteArray) (ns : List ByteArray) (its : List Tr) (cs : List Value) (hk : k = 5 ∨ k = 6) (hb : (its.length + 1) * 80 ≤ 281474976710656) (w0 w : World) (h0 : Below w0.heap.size w0 w) (hV : VRep w0 (.node k x tx ns its) cs) :
    ∃ xs, ItemsRep w0 (keepIts k ns its) xs ∧ Calls Try.prog 51 #[.agg cs.toArray] w (Anew w k (keepIts k ns its).length (strs (keepNs k ns its)) xs) := by
  obtain ⟨an, cn, ai, ci, xs, rfl, hcn, hci, hN, hI, hR⟩ := hV.parts
  have hN' := hN.keep h0
  have hI' := hI.keep h0
  rcases hk with rfl | rfl
  · exact ⟨xs, hR, anew5 x tx an ns.length cn ai its.length ci _ xs hR.length hb hR.ones w hI'⟩
  · have hl : (its.take (min ns.length its.length)).length = min ns.length its.length := by rw [List.length_take]; omega
    refine ⟨xs.take (min ns.length its.length * 5), hR.take _, ?_⟩
    have := anew6 x tx an ns.length cn ai its.length ci (min ns.length its.length) (strs (ns.take (min ns.length its.length))) (xs.take (min ns.length its.length * 5)) rfl hcn.1 hci.1 (by rw [strs_length, List.length_take]; omega) (by rw [List.length_take, hR.length]; omega) (by omega) (strs1 _) (fun v hv => hR.ones v (List.mem_of_mem_take hv)) w (by rw [← strs_take]; exact hN'.take _) (hI'.take _)
    unfold keepIts keepNs
    rw [if_pos rfl, if_pos rfl, hl]
    exact this

theorem row_at5 {W : World} {lo : Nat} {e : TypeId} {g n cap : Nat} {xs : List Value} (h : W.ownsRow lo e 5 (.slice (some ⟨g, 0, none⟩) n cap) n xs) (j : Nat) (hj : j < n * 5) : ∃ u, W.cell? ⟨g, j, none⟩ = some u := by
  refine ⟨xs[j]'(by rw [h.1]; omega), ?_⟩
  have := h.cellAt j hj
  rw [List.getElem?_eq_getElem (by rw [h.1]; omega)] at this
  exact this
set_option maxHeartbeats 600000 in
set_option maxRecDepth 100000 in
theorem with_set (k x : Int) (tx : ByteArray) (an : Option Addr) (ln cn : Nat) (ai : Option Addr) (li ci : Nat) (sg : ByteArray) (m n : Nat) (hm : m < n) (k1 x1 : Int) (s1 : ByteArray) (an1 : Option Addr) (ln1 cn1 : Nat) (ai1 : Option Addr) (li1 ci1 : Nat) (ns : List ByteArray) (its : List Tr) (hn : its.length = n) (xs : List Value) (X : Tr) (S : Nat → Prop) (w0 w : World) (h0 : Below w0.heap.size w0 w) (hS : ∀ k, k < w0.heap.size → S k)
    (hI : ItemsRep w0 its xs) (hX : Seen w S X (five k1 x1 s1 (.slice an1 ln1 cn1) (.slice ai1 li1 ci1)))
    (hA : ∀ W, Below w.heap.size w W → Calls Try.prog 51 #[.agg #[.int .i64 k, .int .i64 x, .string tx, .slice an ln cn, .slice ai li ci]] W (Anew W k n (strs ns) xs)) (hk : k = 5 → ns = []) (hk6 : k = 6 → ns.length = n) :
    Calls Try.prog 48 #[.agg #[.int .i64 k, .int .i64 x, .string tx, .slice an ln cn, .slice ai li ci, .string sg, .int .i64 m], .agg #[.int .i64 k1, .int .i64 x1, .string s1, .slice an1 ln1 cn1, .slice ai1 li1 ci1]] w (WithPost w S (.node k 0 ⟨#[]⟩ ns (its.set m X))) := by
  have hB3 : ∀ p1 p2 p3, Below w.heap.size w (((w.alloc p1).alloc p2).alloc p3) := fun p1 p2 p3 => ((Below.refl _ w).alloc (Nat.le_refl _) p1).alloc (by simp) p2 |>.alloc (by simp; omega) p3
  have hn0 : ∀ o1 o2 o3, (((w.alloc o1).alloc o2).alloc o3).heap[w.heap.size]? = some o1 := fun o1 o2 o3 => (Below.heap_alloc _ _ _ (by simp; omega)).trans (new1 w o1 o2)
  have hn1 : ∀ o1 o2 o3, (((w.alloc o1).alloc o2).alloc o3).heap[w.heap.size + 1]? = some o2 := fun o1 o2 o3 => (Below.heap_alloc _ _ _ (by simp)).trans (new2 w o1 o2)
  have hn2 : ∀ o1 o2 o3, (((w.alloc o1).alloc o2).alloc o3).heap[w.heap.size + 1 + 1]? = some o3 := fun o1 o2 o3 => heap_new' (by simp)
  have hA' := fun p1 p2 p3 => hA _ (hB3 p1 p2 p3)
  clear hA
  go_enter Try.func48, Try.ntmps48
  go_wp2_with fail
  refine (hA' _ _ _).mono ?_
  rintro e w4 ⟨hb4, nm, gi, rfl, hrow, hnm⟩
  clear hA'
  have t0 := (hb4.block _ (by simp; omega)).trans (hn0 _ _ _)
  have t1 := (hb4.block _ (by simp)).trans (hn1 _ _ _)
  have t2 := (hb4.block _ (by simp)).trans (hn2 _ _ _)
  have HB : Below w.heap.size w w4 := (hB3 _ _ _).trans (hb4.mono (by simp; omega))
  have hsz : w.heap.size + 3 ≤ w4.heap.size := by have := hb4.size; simp at this; omega
  simp only [World.size_alloc] at hrow hnm
  clear hb4 hB3 hn0 hn1 hn2
  have hgi := ownsRow_ge hrow (g := gi) rfl
  have hnmS : SeenR w4 (fun k => w.heap.size + 1 + 1 + 1 ≤ k ∧ k ≠ gi) nm ns := by
    rcases hnm with ⟨rfl, rfl⟩ | ⟨rfl, gn, hne, rfl, hnr⟩
    · rw [hk rfl]; exact fun W' _ => ⟨none, 0, rfl, ⟨Nat.le_refl _, by omega⟩, .inl rfl⟩
    · obtain rfl := hk6 rfl
      exact fun W' ha => own_reads hnr (show _ ∧ _ from ⟨(ownsRow_ge hnr (g := gn) rfl).1, hne⟩) ha
  obtain ⟨anm, lnm, cnm, rfl⟩ : ∃ a l c, nm = .slice a l c := by
    rcases hnm with ⟨_, rfl⟩ | ⟨_, gn, _, rfl, _⟩
    · exact ⟨_, _, _, rfl⟩
    · exact ⟨_, _, _, rfl⟩
  clear hnm hk hk6
  obtain ⟨W5, hW5⟩ : ∃ W5, Hid (w4.alloc (.cells #[.int .i64 k, .int .i64 0, .string ⟨#[]⟩, .slice anm lnm cnm, .slice (some ⟨gi, 0, none⟩) n (n + 1)] 25) = W5) := ⟨_, rfl⟩
  have hb5 : Below w4.heap.size w4 W5 := by rw [← hW5.out]; exact (Below.refl _ w4).alloc (Nat.le_refl _) _
  have hs5 : W5.heap.size = w4.heap.size + 1 := by rw [← hW5.out]; simp
  have t5 : W5.heap[w4.heap.size]? = some (.cells #[.int .i64 k, .int .i64 0, .string ⟨#[]⟩, .slice anm lnm cnm, .slice (some ⟨gi, 0, none⟩) n (n + 1)] 25) := by rw [← hW5.out]; exact heap_alloc_new w4 _
  replace t0 := (hb5.block _ (by omega)).trans t0
  replace t1 := (hb5.block _ (by omega)).trans t1
  replace t2 := (hb5.block _ (by omega)).trans t2
  replace hrow := ownsRow_below hrow hb5
  have i6 : W5.cell? ⟨w.heap.size, 6, none⟩ = some (.int .i64 m) := by simp [World.cell?, t0]
  obtain ⟨y0, y1, y2, y3, y4, -⟩ := row_cells t1
  have v4' : W5.cell? ⟨w4.heap.size, 4, none⟩ = some (.slice (some ⟨gi, 0, none⟩) n (n + 1)) := by simp [World.cell?, t5]
  obtain ⟨u0, c0⟩ := row_at5 hrow (m * 5) (by omega)
  have f0 := hrow.frozenAt (m * 5)
  obtain ⟨u1, c1⟩ := row_at5 hrow (m * 5 + 1) (by omega)
  have f1 := hrow.frozenAt (m * 5 + 1)
  obtain ⟨u2, c2⟩ := row_at5 hrow (m * 5 + 2) (by omega)
  have f2 := hrow.frozenAt (m * 5 + 2)
  obtain ⟨u3, c3⟩ := row_at5 hrow (m * 5 + 3) (by omega)
  have f3 := hrow.frozenAt (m * 5 + 3)
  obtain ⟨u4, c4⟩ := row_at5 hrow (m * 5 + 4) (by omega)
  have f4 := hrow.frozenAt (m * 5 + 4)
  obtain ⟨W6, hW6⟩ : ∃ W6, Hid ((((((W5.setCell ⟨gi, m * 5, none⟩ (.int .i64 k1)).setCell ⟨gi, m * 5 + 1, none⟩ (.int .i64 x1)).setCell ⟨gi, m * 5 + 2, none⟩ (.string s1)).setCell ⟨gi, m * 5 + 3, none⟩ (.slice an1 ln1 cn1)).setCell ⟨gi, m * 5 + 4, none⟩ (.slice ai1 li1 ci1)) = W6) := ⟨_, rfl⟩
  have r6 := (((((hrow.stored (m * 5) (.int .i64 k1)).1.stored (m * 5 + 1) (.int .i64 x1)).1.stored (m * 5 + 2) (.string s1)).1.stored (m * 5 + 3) (.slice an1 ln1 cn1)).1.stored (m * 5 + 4) (.slice ai1 li1 ci1)).1
  rw [hW6.out] at r6
  have k6 : ∀ j, j ≠ gi → W6.heap[j]? = W5.heap[j]? := fun j hj => by rw [← hW6.out]; exact (Below.heap_setCell _ _ _ _ hj).trans ((Below.heap_setCell _ _ _ _ hj).trans ((Below.heap_setCell _ _ _ _ hj).trans ((Below.heap_setCell _ _ _ _ hj).trans (Below.heap_setCell _ _ _ _ hj))))
  have s6 : W6.heap.size = W5.heap.size := by rw [← hW6.out]; simp [World.setCell]
  have B5 : Below w.heap.size w W5 := HB.trans (hb5.mono HB.size)
  have B6 : Below w.heap.size w W6 := ⟨by rw [← hW6.out]; exact B5.os, by rw [← hW6.out]; exact B5.tape, by rw [← hW6.out]; exact B5.output, by rw [s6]; exact B5.size, fun j hj => (k6 j (by omega)).trans (B5.block j hj)⟩
  have t56 := (k6 _ (by omega)).trans t5
  have t26 := (k6 _ (by omega)).trans t2
  obtain ⟨v0, v1, v2, v3, v4, -⟩ := row_cells t56
  obtain ⟨z0, z1, z2, z3, z4, zf⟩ := row_cells t26
  have g0 := zf 0; have g1 := zf 1; have g2 := zf 2; have g3 := zf 3; have g4 := zf 4
  clear zf
  have nm6 : SeenR W6 (fun k => w.heap.size + 1 + 1 + 1 ≤ k ∧ k ≠ gi) (.slice anm lnm cnm) ns := fun W' ha => hnmS W' ⟨by have := ha.1; omega, fun p u hp hc => ha.2 p u hp ((World.cell?_of_block (w := W5) (k6 p.block hp.2)).trans ((hb5.cell (cell_lt hc)).trans hc))⟩
  have hd : decide ((m : Int) < (n : Int)) = true := by simp; omega
  have i1 : (m : Int) < (n : Int) := by omega
  have i2 : (0 : Int) ≤ (m : Int) := by omega
  replace nm6 := hid_of nm6; replace r6 := hid_of r6; replace t26 := hid_of t26; replace B6 := hid_of B6; replace s6 := hid_of s6; replace hs5 := hid_of hs5; replace hsz := hid_of hsz
  replace hX := hid_of hX; replace hI := hid_of hI; replace h0 := hid_of h0; replace HB := hid_of HB; replace hS := hid_of hS; replace hgi := hid_of hgi
  clear k6 B5 hb5 t5 t2 t1 t0 hnmS hrow t56
  go_wp2_with (first | rw [hW5.out] | rw [hW6.out])
  have hr := put5_cells t26.out (.int .i64 k) (.int .i64 0) (.string ⟨#[]⟩) (.slice anm lnm cnm) (.slice (some ⟨gi, 0, none⟩) n (n + 1))
  have q0 := hr 0; have q1 := hr 1; have q2 := hr 2; have q3 := hr 3; have q4 := hr 4
  clear hr
  refine bodyPost_ret (v := .agg #[.int .i64 k, .int .i64 0, .string ⟨#[]⟩, .slice anm lnm cnm, .slice (some ⟨gi, 0, none⟩) n (n + 1)]) (by simp [results, Try.results48, go_sem, q0, q1, q2, q3, q4]) rfl ?_
  clear q0 q1 q2 q3 q4 z0 z1 z2 z3 z4 g0 g1 g2 g3 g4 v0 v1 v2 v3 v4
  have hgi1 := hgi.out; have hsz1 := hsz.out; have hs51 := hs5.out; have s61 := s6.out
  have hBf : Below w.heap.size w (put5 W6 (w.heap.size + 1 + 1) (.int .i64 k) (.int .i64 0) (.string ⟨#[]⟩) (.slice anm lnm cnm) (.slice (some ⟨gi, 0, none⟩) n (n + 1))) := B6.out.trans (put5_below (by omega) _ _ _ _ _)
  refine ⟨hBf, five k 0 ⟨#[]⟩ (.slice anm lnm cnm) (.slice (some ⟨gi, 0, none⟩) n (n + 1)), _, _, _, _, _, _, _, _, _, rfl, rfl, ?_⟩
  have hlen : (its.set m X).length = n := by rw [List.length_set]; exact hn
  have hfin := with_fin (k := k) (ns := ns) (its := its.set m X) (nm := .slice anm lnm cnm) (gi := gi) (ci := n + 1) h0.out hS.out hBf (by
    rw [hlen]
    exact ownsRow_keep (ownsRow_lo r6.out (by omega)) (fun g hg => by cases hg; exact put5_far _ _ _ _ _ (show gi ≠ w.heap.size + 1 + 1 by omega))) (fun W' ha => nm6.out W' ⟨by have := ha.1; rw [put5_size] at this; exact this, fun p u hp hc => ha.2 p u (show w.heap.size ≤ p.block by have := hp.1; omega) ((World.cell?_of_block (w := W6) (put5_far _ _ _ _ _ (show p.block ≠ w.heap.size + 1 + 1 by have := hp.1; omega))).trans hc)⟩) (fun W' hk hs ha => by
      refine ItemsRep.set (seen_next hX.out hBf (fun _ h => .inl h) ha) m (by omega) (hI.out.mono hk hs))
  rw [hlen] at hfin
  exact hfin
end Go.Proofs.Ythebilggokpciaa
