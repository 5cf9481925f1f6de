import Derived.Test.YtnhijkmddfhcbaaGreatDoorW21
namespace Go.Proofs.YtnhijkmddfhcbaaGreatDoor
open Go Go.RowKit Go.Maps

theorem EnvP.below {w w1 : World} {B : Nat} (h : EnvP w) (hb : Below B w w1) (h8 : 8 ≤ B) : EnvP w1 :=
  ⟨utf_below h.utf hb h8, tab_below h.tab hb h8, by have := hb.size; have := h.big; omega⟩
mutual
def lenJ : J → Nat
  | .null => 4
  | .fls => 5
  | .tru => 4
  | .int x => (Lib.itoa x).length
  | .text s => (qT s).length
  | .list l => 2 + (l.length - 1) + lenL l
  | .obj ns l => 2 + (l.length - 1) + upTo (nameLen ns) ns.length + lenL l
def lenL : List J → Nat
  | [] => 0
  | j :: js => lenJ j + lenL js
end
mutual
/-- A value that Print takes, but for its depth and its names. -/
def smJ : J → Prop
  | .int x => -9223372036854775808 ≤ x ∧ x ≤ 9223372036854775807
  | .text s => okT s
  | .list l => l.length ≤ 65536 ∧ smL l
  | .obj ns l => l.length ≤ 65536 ∧ (∀ i, i < ns.length → okT (nth ns i)) ∧ smL l
  | _ => True
def smL : List J → Prop
  | [] => True
  | j :: js => smJ j ∧ smL js
end
theorem smL.get : (l : List J) → smL l → ∀ j ∈ l, smJ j
  | [], _, j, h => absurd h (by simp)
  | i :: js, h, j, hj => by
    unfold smL at h
    rcases List.mem_cons.1 hj with rfl | hj
    · exact h.1
    · exact smL.get js h.2 j hj
def jth (l : List J) (i : Nat) : J := l.getD i .null
theorem jth_eq (l : List J) (i : Nat) (h : i < l.length) : jth l i = l[i] := by
  unfold jth; rw [List.getD_eq_getElem?_getD, List.getElem?_eq_getElem h]; rfl
theorem upTo_shift (f : Nat → Nat) (n : Nat) : upTo f (n + 1) = f 0 + upTo (fun i => f (i + 1)) n := by
  induction n with
  | zero => simp [upTo]
  | succ n ih => rw [show upTo f (n + 1 + 1) = upTo f (n + 1) + f (n + 1) from rfl, ih]; simp only [upTo]; omega
theorem lenL_upTo : (l : List J) → lenL l = upTo (fun i => lenJ (jth l i)) l.length
  | [] => rfl
  | j :: js => by
    rw [List.length_cons, upTo_shift]
    unfold lenL
    rw [lenL_upTo js]
    rfl
theorem lenL_mem {l : List J} {j : J} (h : j ∈ l) : lenJ j ≤ lenL l := by
  induction l with
  | nil => cases h
  | cons i js ih =>
    unfold lenL
    rcases List.mem_cons.1 h with rfl | h
    · omega
    · have := ih h; omega

set_option maxHeartbeats 1000000 in
theorem len_flat (k : Int) (T : ByteArray) (hk : k = 0 ∨ k = 1 ∨ k = 2) (hT : ∀ w, Calls Tryz.prog 33 #[.int .i64 k] w fun e w' => e = .returned (.string T) ∧ w' = w) (x : Int) (s : ByteArray) (v3 v4 : Value) (h3 : v3 = .slice none 0 0) (h4 : v4 = .slice none 0 0) (w : World) :
    Calls Tryz.prog 22 #[.agg #[.int .i64 k, .int .i64 x, .string s, v3, v4]] w fun e w' => e = .returned (.int .i64 (T.size : Int)) ∧ Below w.heap.size w w' := by
  have hB : ∀ o, Below w.heap.size w (w.alloc o) := fun o => (Below.refl _ _).alloc (Nat.le_refl _) _
  subst h3 h4
  rcases hk with rfl | rfl | rfl
  all_goals
    go_enter Tryz.func22, Tryz.ntmps22
    go_wp2_with fail
    refine (hT _).mono ?_
    rintro e w1 ⟨rfl, rfl⟩
    go_wp2_with fail
    go_ret
    exact ⟨rfl, hB _⟩
set_option maxHeartbeats 1000000 in
theorem len_int (x : Int) (h0 : -9223372036854775808 ≤ x) (h1 : x ≤ 9223372036854775807) (s : ByteArray) (w : World) (hE : EnvP w) :
    Calls Tryz.prog 22 #[.agg #[.int .i64 3, .int .i64 x, .string s, .slice none 0 0, .slice none 0 0]] w fun e w' => e = .returned (.int .i64 ((Lib.itoa x).length : Int)) ∧ Below w.heap.size w w' := by
  have hB : ∀ o, Below w.heap.size w (w.alloc o) := fun o => (Below.refl _ _).alloc (Nat.le_refl _) _
  have hT : ∀ o, Lib.TabIs Tryz.prog (w.alloc o) "internal/strconv.uint64pow10" .u64 Lib.pow10Tab := fun o => tab_below hE.tab (hB o) hE.big
  go_enter Tryz.func22, Tryz.ntmps22
  go_wp2_with fail
  refine (fmt_any x h0 h1 _ (hT _)).mono ?_
  rintro e w1 ⟨rfl, hb1⟩
  have hbw : Below w.heap.size w w1 := (hB _).trans (hb1.mono (by simp))
  clear hb1
  go_wp2_with fail
  go_ret
  exact ⟨rfl, hbw⟩
set_option maxHeartbeats 1000000 in
theorem len_text (x : Int) (s : ByteArray) (hs : okT s) (w : World) :
    Calls Tryz.prog 22 #[.agg #[.int .i64 4, .int .i64 x, .string s, .slice none 0 0, .slice none 0 0]] w fun e w' => e = .returned (.int .i64 ((qT s).length : Int)) ∧ Below w.heap.size w w' := by
  have hB : ∀ o, Below w.heap.size w (w.alloc o) := fun o => (Below.refl _ _).alloc (Nat.le_refl _) _
  go_enter Tryz.func22, Tryz.ntmps22
  go_wp2_with fail
  refine (qlen_any s hs _).mono ?_
  rintro e w1 ⟨rfl, hb1⟩
  have hbw : Below w.heap.size w w1 := (hB _).trans (hb1.mono (by simp))
  clear hb1
  go_wp2_with fail
  go_ret
  exact ⟨rfl, hbw⟩
set_option maxHeartbeats 1000000 in
theorem len_nest (k : Int) (hk : k = 5 ∨ k = 6) (x : Int) (s : ByteArray) (a1 : Option Addr) (l1 c1 : Nat) (a2 : Option Addr) (l2 c2 : Nat) (n : Nat) (w : World)
    (hN : Hid (∀ w', Below w.heap.size w w' → Calls Tryz.prog 32 #[.agg #[.int .i64 k, .int .i64 x, .string s, .slice a1 l1 c1, .slice a2 l2 c2]] w' fun e w'' => e = .returned (.int .i64 (n : Int)) ∧ Below w'.heap.size w' w'')) :
    Calls Tryz.prog 22 #[.agg #[.int .i64 k, .int .i64 x, .string s, .slice a1 l1 c1, .slice a2 l2 c2]] w fun e w' => e = .returned (.int .i64 (n : Int)) ∧ Below w.heap.size w w' := by
  have hB : ∀ o, Below w.heap.size w (w.alloc o) := fun o => (Below.refl _ _).alloc (Nat.le_refl _) _
  rcases hk with rfl | rfl
  all_goals
    go_enter Tryz.func22, Tryz.ntmps22
    go_wp2_with fail
    refine (hN.out _ (hB _)).mono ?_
    rintro e w1 ⟨rfl, hb1⟩
    have hbw : Below w.heap.size w w1 := (hB _).trans (hb1.mono (by simp))
    clear hb1
    go_wp2_with fail
    go_ret
    exact ⟨rfl, hbw⟩

def LenOk (j : J) : Prop := ∀ (lo hi : Nat) (w : World) (kd x : Int) (s : ByteArray) (a1 : Option Addr) (l1 c1 : Nat) (a2 : Option Addr) (l2 c2 : Nat), Rep w lo hi j (five kd x s (.slice a1 l1 c1) (.slice a2 l2 c2)) → hi ≤ w.heap.size → smJ j → lenJ j ≤ 1000000000 → EnvP w →
  Calls Tryz.prog 22 #[.agg #[.int .i64 kd, .int .i64 x, .string s, .slice a1 l1 c1, .slice a2 l2 c2]] w fun e w' => e = .returned (.int .i64 (lenJ j : Int)) ∧ Below w.heap.size w w'
theorem items_len {w : World} {lo hi lo0 g cap : Nat} {obs : List Nat} {l : List J} {xs : List Value} (hown : w.ownsRow lo0 26 5 (.slice (some ⟨g, 0, none⟩) l.length cap) l.length xs) (hrep : RepL w lo hi obs l xs) (hhi : hi ≤ w.heap.size) (hsm : smL l) (hlen : lenL l ≤ 1000000000) (hE : EnvP w) (hIH : ∀ j ∈ l, LenOk j) :
    ItemsGood 22 #[] (fun i => .int .i64 (lenJ (jth l i) : Nat)) w g l.length := by
  intro i hi'
  obtain ⟨lo', hi2, e1, e2, e3, e4⟩ := RepL.get l xs hrep i hi'
  obtain ⟨kd, x, s, a1, l1, c1, a2, l2, c2, hf⟩ := e4.form
  refine ⟨kd, x, s, a1, l1, c1, a2, l2, c2, item_at hown hi' hf, fun w' hb => ?_⟩
  rw [hf] at e4
  have hr' := Rep.keep l[i] _ e4 (w' := w') (fun k ka kb => hb.block k (by omega))
  have hm := List.getElem_mem hi'
  have := hIH l[i] hm lo' hi2 w' kd x s a1 l1 c1 a2 l2 c2 hr' (by have := hb.size; omega) (smL.get l hsm _ hm) (by have := lenL_mem hm; omega) (hE.below hb hE.big)
  show Calls Tryz.prog 22 _ w' fun e w'' => e = Ending.returned (Value.int IntKind.i64 ((lenJ (jth l i) : Nat) : Int)) ∧ Below w'.heap.size w' w''
  rw [jth_eq l i hi']
  exact this
theorem lenJ_list (l : List J) : lenJ (.list l) = 2 + (l.length - 1) + upTo (nameLen []) 0 + upTo (fun i => lenJ (jth l i)) l.length := by
  rw [← lenL_upTo]
  have : lenJ (.list l) = 2 + (l.length - 1) + lenL l := by rw [lenJ]
  rw [this]; rfl
theorem lenJ_obj (ns : List ByteArray) (l : List J) : lenJ (.obj ns l) = 2 + (l.length - 1) + upTo (nameLen ns) ns.length + upTo (fun i => lenJ (jth l i)) l.length := by
  rw [← lenL_upTo]
  rw [lenJ]
theorem len_all : (j : J) → LenOk j
  | .null => fun lo hi w kd x s a1 l1 c1 a2 l2 c2 hr hh hsm hln hE => by
    obtain ⟨rfl, rfl, rfl, e1, e2⟩ := five_inj (show five kd x s _ _ = five 0 0 noS nilS nilS from hr)
    exact len_flat 0 ⟨#[110, 117, 108, 108]⟩ (by decide) const_null 0 noS _ _ e1 e2 w
  | .fls => fun lo hi w kd x s a1 l1 c1 a2 l2 c2 hr hh hsm hln hE => by
    obtain ⟨rfl, rfl, rfl, e1, e2⟩ := five_inj (show five kd x s _ _ = five 1 0 noS nilS nilS from hr)
    exact len_flat 1 ⟨#[102, 97, 108, 115, 101]⟩ (by decide) const_false 0 noS _ _ e1 e2 w
  | .tru => fun lo hi w kd x s a1 l1 c1 a2 l2 c2 hr hh hsm hln hE => by
    obtain ⟨rfl, rfl, rfl, e1, e2⟩ := five_inj (show five kd x s _ _ = five 2 0 noS nilS nilS from hr)
    exact len_flat 2 ⟨#[116, 114, 117, 101]⟩ (by decide) const_true 0 noS _ _ e1 e2 w
  | .int y => fun lo hi w kd x s a1 l1 c1 a2 l2 c2 hr hh hsm hln hE => by
    obtain ⟨rfl, rfl, rfl, e1, e2⟩ := five_inj (show five kd x s _ _ = five 3 y noS nilS nilS from hr)
    rw [e1, e2]
    have hsm' : -9223372036854775808 ≤ x ∧ x ≤ 9223372036854775807 := hsm
    exact len_int x hsm'.1 hsm'.2 noS w hE
  | .text t => fun lo hi w kd x s a1 l1 c1 a2 l2 c2 hr hh hsm hln hE => by
    obtain ⟨rfl, rfl, rfl, e1, e2⟩ := five_inj (show five kd x s _ _ = five 4 0 t nilS nilS from hr)
    rw [e1, e2]
    exact len_text 0 s hsm w
  | .list l => fun lo hi w kd x s a1 l1 c1 a2 l2 c2 hr hh hsm hln hE => by
    unfold Rep at hr
    obtain ⟨it, xs, h1, h2, h3, h4⟩ := hr
    obtain ⟨rfl, rfl, rfl, e1, rfl⟩ := five_inj h1
    simp only [nilS, Value.slice.injEq] at e1
    obtain ⟨rfl, rfl, rfl⟩ := e1
    unfold smJ at hsm
    obtain ⟨rfl, hn⟩ := own_form h2
    have hIH : ∀ j ∈ l, LenOk j := fun j hj => len_all j
    have hll : lenL l ≤ 1000000000 := by rw [lenJ_list, ← lenL_upTo] at hln; omega
    refine len_nest 5 (Or.inl rfl) 0 noS none 0 0 a2 l.length c2 (lenJ (.list l)) w (fun w' hb => ?_)
    rw [lenJ_list]
    rcases hn with h0 | ⟨g, rfl, hg⟩
    · rw [h0]; exact nest_nn 5 0 noS none 0 a2 c2 [] _ w'
    · have hs := hb.size
      exact nest_ns 5 0 noS none 0 g l.length c2 [] _ w' (by omega) hsm.1 (by rw [← lenL_upTo]; omega) (items_len (own_below h2 hb) (RepL.keep _ _ h4 (fun k ka kb => hb.block k (by omega))) (by omega) hsm.2 hll (hE.below hb hE.big) hIH)
  | .obj ns l => fun lo hi w kd x s a1 l1 c1 a2 l2 c2 hr hh hsm hln hE => by
    unfold Rep at hr
    obtain ⟨nm, it, xs, h1, hnm, hnb, h2, h3, heq, h4⟩ := hr
    obtain ⟨rfl, rfl, rfl, rfl, rfl⟩ := five_inj h1
    unfold smJ at hsm
    obtain ⟨rfl, hn⟩ := own_form h2
    obtain ⟨rfl, hn'⟩ := own_form hnm
    have hIH : ∀ j ∈ l, LenOk j := fun j hj => len_all j
    have hll : lenL l ≤ 1000000000 ∧ upTo (nameLen ns) ns.length ≤ 1000000000 := by rw [lenJ_obj, ← lenL_upTo] at hln; omega
    refine len_nest 6 (Or.inr rfl) 0 noS a1 ns.length c1 a2 l.length c2 (lenJ (.obj ns l)) w (fun w' hb => ?_)
    rw [lenJ_obj]
    rcases hn with h0 | ⟨g, rfl, hg⟩
    · have h0' : ns.length = 0 := by omega
      rw [h0, h0']; exact nest_nn 6 0 noS a1 c1 a2 c2 ns _ w'
    · rcases hn' with h0 | ⟨gn, rfl, hgn⟩
      · have h0' : l.length = 0 := by omega
        rw [h0, h0']; exact nest_nn 6 0 noS a1 c1 (some ⟨g, 0, none⟩) c2 ns _ w'
      · have hs := hb.size
        have hnm' := own_below hnm hb
        exact nest_ss 6 0 noS gn ns.length c1 g l.length c2 ns _ w' (by omega) (by omega) (by omega) (fun i hi => ⟨names_cells hnm' i hi, hsm.2.1 i hi⟩) (by omega) hsm.1 (by rw [← lenL_upTo]; omega) (items_len (own_below h2 hb) (RepL.keep _ _ h4 (fun k ka kb => hb.block k (by omega))) (by omega) hsm.2.2 hll.1 (hE.below hb hE.big) hIH)
end Go.Proofs.YtnhijkmddfhcbaaGreatDoor
