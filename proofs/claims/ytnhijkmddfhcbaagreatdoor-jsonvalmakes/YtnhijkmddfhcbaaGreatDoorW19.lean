import Derived.Test.YtnhijkmddfhcbaaGreatDoorW18
namespace Go.Proofs.YtnhijkmddfhcbaaGreatDoor
open Go Go.RowKit Go.Maps

set_option maxHeartbeats 1000000 in
theorem members_none (a1 : Option Addr) (cn : Nat) (a2 : Option Addr) (c2 : Nat) (d : Int) (w : World) :
    Calls Tryz.prog 49 #[.agg #[.int .i64 6, .int .i64 0, .string noS, .slice a1 0 cn, .slice a2 0 c2], .int .i64 d] w fun e w' => e = .returned (.int .i64 0) ∧ Below w.heap.size w w' := by
  have hmm := make_hint
  go_enter Tryz.func49, Tryz.ntmps49
  go_wp2_with fail
  refine wp_loop_rounds 1 ?_
  rw [rounds_succ]
  go_wp2_with fail
  go_ret
  exact ⟨rfl, ((Below.refl _ _).alloc (Nat.le_refl _) _).alloc (by simp) _⟩

set_option maxHeartbeats 1000000 in
theorem checkAt_obj (a1 : Option Addr) (n cn : Nat) (a2 : Option Addr) (c2 : Nat) (d : Int) (w : World)
    (hAl : ∀ w', Below w.heap.size w w' → Calls Tryz.prog 48 #[.agg #[.int .i64 6, .int .i64 0, .string noS, .slice a1 n cn, .slice a2 n c2], .int .i64 d] w' fun e w'' => e = .returned (.int .i64 0) ∧ Below w'.heap.size w' w'')
    (hM : ∀ w', Below w.heap.size w w' → Calls Tryz.prog 49 #[.agg #[.int .i64 6, .int .i64 0, .string noS, .slice a1 n cn, .slice a2 n c2], .int .i64 d] w' fun e w'' => e = .returned (.int .i64 0) ∧ Below w'.heap.size w' w'') :
    Calls Tryz.prog 29 #[.agg #[.int .i64 6, .int .i64 0, .string noS, .slice a1 n cn, .slice a2 n c2], .int .i64 d] w fun e w' => e = .returned (.int .i64 0) ∧ Below w.heap.size w w' := by
  have hB : ∀ o, Below w.heap.size w (w.alloc o) := fun o => (Below.refl _ _).alloc (Nat.le_refl _) _
  have HM : Hid (∀ w', Below w.heap.size w w' → Calls Tryz.prog 49 #[.agg #[.int .i64 6, .int .i64 0, .string noS, .slice a1 n cn, .slice a2 n c2], .int .i64 d] w' fun e w'' => e = .returned (.int .i64 0) ∧ Below w'.heap.size w' w'') := hM
  clear hM
  go_enter Tryz.func29, Tryz.ntmps29
  go_wp2_with fail
  refine (hAl _ (hB _)).mono ?_
  rintro e w1 ⟨rfl, hb1⟩
  rw [World.size_alloc] at hb1
  have y0 : w1.cell? ⟨w.heap.size, 0, none⟩ = some (.int .i64 6) := box_cells hb1 0
  have y1 : w1.cell? ⟨w.heap.size, 1, none⟩ = some (.int .i64 0) := box_cells hb1 1
  have y2 : w1.cell? ⟨w.heap.size, 2, none⟩ = some (.string noS) := box_cells hb1 2
  have y3 : w1.cell? ⟨w.heap.size, 3, none⟩ = some (.slice a1 n cn) := box_cells hb1 3
  have y4 : w1.cell? ⟨w.heap.size, 4, none⟩ = some (.slice a2 n c2) := box_cells hb1 4
  have hbw1 := below_box hb1
  clear hb1 hAl
  go_wp2_with fail
  refine (HM.out _ hbw1).mono ?_
  rintro e w2 ⟨rfl, hb2⟩
  have hbw2 : Below w.heap.size w w2 := hbw1.trans (hb2.mono hbw1.size)
  clear HM hb2
  go_wp2_with fail
  go_ret
  exact ⟨rfl, hbw2⟩

/-- The cells of a value: its form. -/
theorem Rep.form {w : World} {lo hi : Nat} {j : J} {cs : List Value} (h : Rep w lo hi j cs) : ∃ (kd x : Int) (s : ByteArray) (a1 : Option Addr) (l1 c1 : Nat) (a2 : Option Addr) (l2 c2 : Nat), cs = five kd x s (.slice a1 l1 c1) (.slice a2 l2 c2) := by
  have sl : ∀ {lo e size v n xs}, w.ownsRow lo e size v n xs → ∃ a l c, v = .slice a l c := fun {lo e size v n xs} h => by
    rcases h.2 with ⟨rfl, _⟩ | ⟨g, cap, cur, rfl, _⟩
    · exact ⟨_, _, _, rfl⟩
    · exact ⟨_, _, _, rfl⟩
  cases j with
  | list l =>
    unfold Rep at h
    obtain ⟨it, xs, h1, h2, _⟩ := h
    obtain ⟨a, l', c, rfl⟩ := sl h2
    exact ⟨_, _, _, _, _, _, _, _, _, h1⟩
  | obj ns l =>
    unfold Rep at h
    obtain ⟨nm, it, xs, h1, h2, _, h4, _⟩ := h
    obtain ⟨a, l', c, rfl⟩ := sl h2
    obtain ⟨a', l'', c', rfl⟩ := sl h4
    exact ⟨_, _, _, _, _, _, _, _, _, h1⟩
  | null => exact ⟨_, _, _, _, _, _, _, _, _, h⟩
  | fls => exact ⟨_, _, _, _, _, _, _, _, _, h⟩
  | tru => exact ⟨_, _, _, _, _, _, _, _, _, h⟩
  | int x => exact ⟨_, _, _, _, _, _, _, _, _, h⟩
  | text s => exact ⟨_, _, _, _, _, _, _, _, _, h⟩
/-- Item i of a row. -/
theorem RepL.get {w : World} {lo hi : Nat} {obs : List Nat} : (l : List J) → (xs : List Value) → RepL w lo hi obs l xs → ∀ i (h : i < l.length), ∃ lo' hi', lo ≤ lo' ∧ hi' ≤ hi ∧ i * 5 + 5 ≤ xs.length ∧ Rep w lo' hi' l[i] ((xs.drop (i * 5)).take 5)
  | [], _, _, i, h => absurd h (by simp)
  | j :: js, xs, hr, i, h => by
    unfold RepL at hr
    obtain ⟨lo', hi', h1, h2, h3, h4, h5, h6, h7⟩ := hr
    cases i with
    | zero => exact ⟨lo', hi', h1, h3, by omega, by simpa using h6⟩
    | succ i =>
      obtain ⟨a, b, e1, e2, e3, e4⟩ := RepL.get js _ h7 i (by simpa using h)
      refine ⟨a, b, by omega, e2, ?_, ?_⟩
      · rw [List.length_drop] at e3; omega
      · have : (xs.drop 5).drop (i * 5) = xs.drop ((i + 1) * 5) := by rw [List.drop_drop]; congr 1; omega
        rw [this] at e4
        simpa using e4
theorem item_at {w : World} {lo g i n cap : Nat} {xs : List Value} {kd x : Int} {s : ByteArray} {a1 : Option Addr} {l1 c1 : Nat} {a2 : Option Addr} {l2 c2 : Nat} (hown : w.ownsRow lo 26 5 (.slice (some ⟨g, 0, none⟩) n cap) n xs) (hi : i < n)
    (hx : (xs.drop (i * 5)).take 5 = five kd x s (.slice a1 l1 c1) (.slice a2 l2 c2)) : ItemAt w g i kd x s a1 l1 c1 a2 l2 c2 := by
  have key : ∀ j, j < 5 → w.cell? ⟨g, i * 5 + j, none⟩ = (five kd x s (.slice a1 l1 c1) (.slice a2 l2 c2))[j]? := fun j hj => by
    rw [hown.cellAt (i * 5 + j) (by omega), ← hx, List.getElem?_take, if_pos hj, List.getElem?_drop]
  exact ⟨key 0 (by omega), key 1 (by omega), key 2 (by omega), key 3 (by omega), key 4 (by omega)⟩

mutual
/-- A value that Check finds good at depth d. -/
def okJ : Nat → J → Prop
  | d, .null => d ≤ 64
  | d, .fls => d ≤ 64
  | d, .tru => d ≤ 64
  | d, .int _ => d ≤ 64
  | d, .text s => d ≤ 64 ∧ s.size ≤ 65536 ∧ Lib.validD s.data.toList = true
  | d, .list l => d ≤ 63 ∧ l.length ≤ 65536 ∧ okL (d + 1) l
  | d, .obj ns l => d ≤ 63 ∧ l.length ≤ 65536 ∧ NamesGood ns ∧ okL (d + 1) l
def okL : Nat → List J → Prop
  | _, [] => True
  | d, j :: js => okJ d j ∧ okL d js
end
theorem okL.get {d : Nat} : (l : List J) → okL d l → ∀ j ∈ l, okJ d j
  | [], _, j, h => absurd h (by simp)
  | i :: js, h, j, hj => by
    unfold okL at h
    rcases List.mem_cons.1 hj with rfl | hj
    · exact h.1
    · exact okL.get js h.2 j hj

def CheckOk (j : J) : Prop := ∀ (d lo hi : Nat) (w : World) (kd x : Int) (s : ByteArray) (a1 : Option Addr) (l1 c1 : Nat) (a2 : Option Addr) (l2 c2 : Nat), Rep w lo hi j (five kd x s (.slice a1 l1 c1) (.slice a2 l2 c2)) → hi ≤ w.heap.size → okJ d j → Lib.Utf8Tabs 1 2 w → 8 ≤ w.heap.size →
  Calls Tryz.prog 29 #[.agg #[.int .i64 kd, .int .i64 x, .string s, .slice a1 l1 c1, .slice a2 l2 c2], .int .i64 (d : Int)] w fun e w' => e = .returned (.int .i64 0) ∧ Below w.heap.size w w'
theorem five_inj {k x k' x' : Int} {s s' : ByteArray} {n i n' i' : Value} (h : five k x s n i = five k' x' s' n' i') : k = k' ∧ x = x' ∧ s = s' ∧ n = n' ∧ i = i' := by
  simp only [five, List.cons.injEq, Value.int.injEq, Value.string.injEq, and_true, true_and] at h
  exact ⟨h.1, h.2.1, h.2.2.1, h.2.2.2.1, h.2.2.2.2⟩
/-- The items of a row, each good. -/
theorem items_good {w : World} {lo hi lo0 g cap d : Nat} {obs : List Nat} {l : List J} {xs : List Value} (hown : w.ownsRow lo0 26 5 (.slice (some ⟨g, 0, none⟩) l.length cap) l.length xs) (hrep : RepL w lo hi obs l xs) (hhi : hi ≤ w.heap.size) (hok : okL (d + 1) l) (hU : Lib.Utf8Tabs 1 2 w) (h8 : 8 ≤ w.heap.size) (hIH : ∀ j ∈ l, CheckOk j) :
    ItemsGood 29 #[.int .i64 ((d : Int) + 1)] (fun _ => .int .i64 0) w g l.length := by
  intro i hi'
  obtain ⟨lo', hi2, e1, e2, e3, e4⟩ := RepL.get l xs hrep i hi'
  obtain ⟨kd, x, s, a1, l1, c1, a2, l2, c2, hf⟩ := e4.form
  refine ⟨kd, x, s, a1, l1, c1, a2, l2, c2, item_at hown hi' hf, fun w' hb => ?_⟩
  rw [hf] at e4
  have hr' := Rep.keep l[i] _ e4 (w' := w') (fun k ka kb => hb.block k (by omega))
  have := hIH l[i] (List.getElem_mem hi') (d + 1) lo' hi2 w' kd x s a1 l1 c1 a2 l2 c2 hr' (by have := hb.size; omega) (okL.get l hok _ (List.getElem_mem hi')) (utf_below hU hb h8) (by have := hb.size; omega)
  have hc : (((d + 1 : Nat) : Int)) = (d : Int) + 1 := by omega
  rw [hc] at this
  exact this

theorem own_form {w : World} {lo : Nat} {e : TypeId} {size : Nat} {a : Option Addr} {l c n : Nat} {xs : List Value} (h : w.ownsRow lo e size (.slice a l c) n xs) : l = n ∧ (n = 0 ∨ ∃ g, a = some ⟨g, 0, none⟩ ∧ g < w.heap.size) := by
  rcases h.2 with ⟨h1, h2⟩ | ⟨g, cap, cur, h1, _, h3, _⟩
  · simp only [Value.slice.injEq] at h1; exact ⟨by omega, Or.inl h2⟩
  · simp only [Value.slice.injEq] at h1
    exact ⟨h1.2.1, Or.inr ⟨g, h1.1, (Array.getElem?_eq_some_iff.1 h3).1⟩⟩
theorem own_below {w w' : World} {lo : Nat} {e : TypeId} {size : Nat} {v : Value} {n : Nat} {xs : List Value} (h : w.ownsRow lo e size v n xs) (hb : Below w.heap.size w w') : w'.ownsRow lo e size v n xs := ownsRow_keep h (fun g hg => hb.block g (ownsRow_ge h hg).2)
theorem names_cells {w : World} {lo gn cn : Nat} {ns : List ByteArray} (h : w.ownsRow lo 9 1 (.slice (some ⟨gn, 0, none⟩) ns.length cn) ns.length (strs ns)) : ∀ i, i < ns.length → w.cell? ⟨gn, i, none⟩ = some (.string (nth ns i)) := fun i hi => by
  rw [h.cellAt i (by omega)]
  unfold strs nth
  rw [List.getElem?_map, List.getD_eq_getElem?_getD, List.getElem?_eq_getElem hi]; rfl

theorem check_all : (j : J) → CheckOk j
  | .null => fun d lo hi w kd x s a1 l1 c1 a2 l2 c2 hr hh hok hU h8 => by
    obtain ⟨rfl, rfl, rfl, e1, e2⟩ := five_inj (show five kd x s _ _ = five 0 0 noS nilS nilS from hr)
    simp only [nilS, Value.slice.injEq] at e1 e2
    obtain ⟨rfl, rfl, rfl⟩ := e1
    obtain ⟨rfl, rfl, rfl⟩ := e2
    have hd : d ≤ 64 := hok
    exact checkAt_none 0 0 noS none 0 0 none 0 d w rfl (fun w' hb => alone_flat0 none 0 none 0 d (by omega) w' (utf_below hU hb h8) (by have := hb.size; omega))
  | .fls => fun d lo hi w kd x s a1 l1 c1 a2 l2 c2 hr hh hok hU h8 => by
    obtain ⟨rfl, rfl, rfl, e1, e2⟩ := five_inj (show five kd x s _ _ = five 1 0 noS nilS nilS from hr)
    simp only [nilS, Value.slice.injEq] at e1 e2
    obtain ⟨rfl, rfl, rfl⟩ := e1
    obtain ⟨rfl, rfl, rfl⟩ := e2
    have hd : d ≤ 64 := hok
    exact checkAt_none 1 0 noS none 0 0 none 0 d w rfl (fun w' hb => alone_flat1 none 0 none 0 d (by omega) w' (utf_below hU hb h8) (by have := hb.size; omega))
  | .tru => fun d lo hi w kd x s a1 l1 c1 a2 l2 c2 hr hh hok hU h8 => by
    obtain ⟨rfl, rfl, rfl, e1, e2⟩ := five_inj (show five kd x s _ _ = five 2 0 noS nilS nilS from hr)
    simp only [nilS, Value.slice.injEq] at e1 e2
    obtain ⟨rfl, rfl, rfl⟩ := e1
    obtain ⟨rfl, rfl, rfl⟩ := e2
    have hd : d ≤ 64 := hok
    exact checkAt_none 2 0 noS none 0 0 none 0 d w rfl (fun w' hb => alone_flat2 none 0 none 0 d (by omega) w' (utf_below hU hb h8) (by have := hb.size; omega))
  | .int y => fun d lo hi w kd x s a1 l1 c1 a2 l2 c2 hr hh hok hU h8 => by
    obtain ⟨rfl, rfl, rfl, e1, e2⟩ := five_inj (show five kd x s _ _ = five 3 y noS nilS nilS from hr)
    simp only [nilS, Value.slice.injEq] at e1 e2
    obtain ⟨rfl, rfl, rfl⟩ := e1
    obtain ⟨rfl, rfl, rfl⟩ := e2
    have hd : d ≤ 64 := hok
    exact checkAt_none 3 x noS none 0 0 none 0 d w rfl (fun w' hb => alone_int x none 0 none 0 d (by omega) w' (utf_below hU hb h8) (by have := hb.size; omega))
  | .text t => fun d lo hi w kd x s a1 l1 c1 a2 l2 c2 hr hh hok hU h8 => by
    obtain ⟨rfl, rfl, rfl, e1, e2⟩ := five_inj (show five kd x s _ _ = five 4 0 t nilS nilS from hr)
    simp only [nilS, Value.slice.injEq] at e1 e2
    obtain ⟨rfl, rfl, rfl⟩ := e1
    obtain ⟨rfl, rfl, rfl⟩ := e2
    have hok' : d ≤ 64 ∧ s.size ≤ 65536 ∧ Lib.validD s.data.toList = true := hok
    exact checkAt_none 4 0 s none 0 0 none 0 d w rfl (fun w' hb => alone_text s hok'.2.1 hok'.2.2 none 0 none 0 d (by omega) w' (utf_below hU hb h8) (by have := hb.size; omega))
  | .list l => fun d lo hi w kd x s a1 l1 c1 a2 l2 c2 hr hh hok hU h8 => by
    unfold Rep at hr
    obtain ⟨it, xs, h1, h2, h3, h4⟩ := hr
    obtain ⟨rfl, rfl, rfl, e1, rfl⟩ := five_inj h1
    simp only [nilS, Value.slice.injEq] at e1
    obtain ⟨rfl, rfl, rfl⟩ := e1
    unfold okJ at hok
    obtain ⟨hd, hln, hokl⟩ := hok
    obtain ⟨rfl, hn⟩ := own_form h2
    have hIH : ∀ j ∈ l, CheckOk j := fun j hj => check_all j
    rcases hn with h0 | ⟨g, rfl, hg⟩
    · rw [h0]
      exact checkAt_none 5 0 noS none 0 0 a2 c2 d w rfl (fun w' hb => alone_list 0 none 0 a2 c2 d (by omega) w' (utf_below hU hb h8) (by have := hb.size; omega))
    · exact checkAt_some 5 0 noS none 0 0 g l.length c2 d w rfl hg (by omega) (by omega) (by omega) (fun w' hb => alone_list l.length none 0 _ c2 d (by omega) w' (utf_below hU hb h8) (by have := hb.size; omega)) (items_good h2 h4 hh hokl hU h8 hIH)
  | .obj ns l => fun d lo hi w kd x s a1 l1 c1 a2 l2 c2 hr hh hok hU h8 => by
    unfold Rep at hr
    obtain ⟨nm, it, xs, h1, hnm, hnb, h2, h3, heq, h4⟩ := hr
    obtain ⟨rfl, rfl, rfl, rfl, rfl⟩ := five_inj h1
    unfold okJ at hok
    obtain ⟨hd, hln, hng, hokl⟩ := hok
    obtain ⟨rfl, hn⟩ := own_form h2
    obtain ⟨rfl, hn'⟩ := own_form hnm
    have hIH : ∀ j ∈ l, CheckOk j := fun j hj => check_all j
    rw [heq]
    refine checkAt_obj a1 l.length c1 a2 c2 d w (fun w' hb => alone_obj l.length a1 c1 a2 c2 d (by omega) w' (utf_below hU hb h8) (by have := hb.size; omega)) (fun w' hb => ?_)
    rcases hn with h0 | ⟨g, rfl, hg⟩
    · rw [h0]; exact members_none a1 c1 a2 c2 d w'
    · rcases hn' with h0 | ⟨gn, rfl, hgn⟩
      · have h0' : l.length = 0 := by omega
        rw [h0']; exact members_none a1 c1 (some ⟨g, 0, none⟩) c2 d w'
      · have hs := hb.size
        have hIt := items_good (w := w') (own_below h2 hb) (RepL.keep _ _ h4 (fun k ka kb => hb.block k (by omega))) (by omega) hokl (utf_below hU hb h8) (by omega) hIH
        have hnm' := own_below hnm hb
        exact members_some ns gn c1 g l.length c2 d w' (by omega) (utf_below hU hb h8) (by omega) (by omega) heq hln (by omega) (by omega) hng (fun i hi => names_cells hnm' i (by omega)) hIt
end Go.Proofs.YtnhijkmddfhcbaaGreatDoor
