import Derived.Test.YtgohjkblfojmaaaDoorZ2
import Derived.Test.YtgohjkblfojmaaaDoorX2
/-! Equal (function 10) of one value that lies twice. -/
namespace Go.Proofs.YtgohjkblfojmaaaDoor
open Go Go.RowKit Go.Maps
def wEq (w : World) (A B : Array Value) : World := (w.alloc (.cells A 28)).alloc (.cells B 28)
theorem wEq_size (w : World) (A B : Array Value) : (wEq w A B).heap.size = w.heap.size + 2 := by simp [wEq]
theorem wEq_old (w : World) (A B : Array Value) {k : Nat} (h : k < w.heap.size) : (wEq w A B).heap[k]? = w.heap[k]? := by
  unfold wEq; rw [alloc_old (by simp; omega), alloc_old h]
theorem wEq_0 (w : World) (A B : Array Value) : (wEq w A B).heap[w.heap.size]? = some (.cells A 28 (0, 0)) := by
  unfold wEq; rw [alloc_old (by simp), alloc_at rfl]
theorem wEq_1 (w : World) (A B : Array Value) : (wEq w A B).heap[w.heap.size + 1]? = some (.cells B 28 (0, 0)) := by
  unfold wEq; rw [alloc_at (by simp)]
theorem wEq_below (w : World) (A B : Array Value) : Below w.heap.size w (wEq w A B) := ((Below.refl _ _).alloc (Nat.le_refl _) _).alloc (by simp) _
/-- Blocks k below B read as they did. -/
theorem Below.cell {B : Nat} {w w' : World} (h : Below B w w') {k o : Nat} (hk : k < B) : w'.cell? ⟨k, o, none⟩ = w.cell? ⟨k, o, none⟩ := World.cell?_of_block (w := w) (a := ⟨k, o, none⟩) (h.block k hk)
set_option maxHeartbeats 2000000 in
theorem eq_any (kd x : Int) (s : ByteArray) (a1 : Option Addr) (N c1 : Nat) (a2 : Option Addr) (M c2 : Nat) (b1 : Option Addr) (d1 : Nat) (b2 : Option Addr) (d2 : Nat) (w : World) (hNs : N ≤ 65536) (hMs : M ≤ 65536)
    (hN : Hid (∀ i, i < N → ∃ (gn gn' : Nat) (nm : ByteArray), a1 = some ⟨gn, 0, none⟩ ∧ b1 = some ⟨gn', 0, none⟩ ∧ gn < w.heap.size ∧ gn' < w.heap.size ∧ w.cell? ⟨gn, i, none⟩ = some (.string nm) ∧ w.cell? ⟨gn', i, none⟩ = some (.string nm)))
    (hI : Hid (∀ i, i < M → ∃ (g g' : Nat) (kd2 x2 : Int) (s2 : ByteArray) (p1 : Option Addr) (l1 e1 : Nat) (p2 : Option Addr) (l2 e2 : Nat) (q1 : Option Addr) (f1 : Nat) (q2 : Option Addr) (f2 : Nat), a2 = some ⟨g, 0, none⟩ ∧ b2 = some ⟨g', 0, none⟩ ∧ g < w.heap.size ∧ g' < w.heap.size ∧
      ItemAt w g i kd2 x2 s2 p1 l1 e1 p2 l2 e2 ∧ ItemAt w g' i kd2 x2 s2 q1 l1 f1 q2 l2 f2 ∧ ∀ w', Below w.heap.size w w' → Calls Tryd.prog 10 #[.agg #[.int .i64 kd2, .int .i64 x2, .string s2, .slice p1 l1 e1, .slice p2 l2 e2], .agg #[.int .i64 kd2, .int .i64 x2, .string s2, .slice q1 l1 f1, .slice q2 l2 f2]] w' fun e w'' => e = .returned (.bool true) ∧ Below w'.heap.size w' w'')) :
    Calls Tryd.prog 10 #[.agg #[.int .i64 kd, .int .i64 x, .string s, .slice a1 N c1, .slice a2 M c2], .agg #[.int .i64 kd, .int .i64 x, .string s, .slice b1 N d1, .slice b2 M d2]] w fun e w' => e = .returned (.bool true) ∧ Below w.heap.size w w' := by
  go_enter Tryd.func10, Tryd.ntmps10
  go_wp2_with fail
  go_loopw [5] (fun i wr => ∃ q : Nat, q ≤ N ∧ i = .int .i64 q ∧ Hid (Below (w.heap.size + 2) (wEq w #[.int .i64 kd, .int .i64 x, .string s, .slice a1 N c1, .slice a2 M c2] #[.int .i64 kd, .int .i64 x, .string s, .slice b1 N d1, .slice b2 M d2]) wr)) (fun i wr => N - (intOf i).toNat)
  case atStart => exact ⟨0, Nat.zero_le _, rfl, Below.refl _ _⟩
  case round =>
    obtain ⟨q, hq, rfl, HB⟩ := hrel
    have hv := (HB.out.block w.heap.size (by omega)).trans (wEq_0 w _ _)
    have hv' := (HB.out.block (w.heap.size + 1) (by omega)).trans (wEq_1 w _ _)
    have y3 : wr.cell? ⟨w.heap.size, 3, none⟩ = some (.slice a1 N c1) := cell_of hv 3
    have y3' : wr.cell? ⟨w.heap.size + 1, 3, none⟩ = some (.slice b1 N d1) := cell_of hv' 3
    have y4 : wr.cell? ⟨w.heap.size, 4, none⟩ = some (.slice a2 M c2) := cell_of hv 4
    clear hv hv'
    by_cases hlt : q < N
    · obtain ⟨gn, gn', nm, rfl, rfl, hg, hg', hc, hc'⟩ := hN.out q hlt
      have n1 : wr.cell? ⟨gn, q, none⟩ = some (.string nm) := (World.cell?_of_block (w := w) (a := ⟨gn, q, none⟩) ((HB.out.block gn (by omega)).trans (wEq_old w _ _ hg))).trans hc
      have n2 : wr.cell? ⟨gn', q, none⟩ = some (.string nm) := (World.cell?_of_block (w := w) (a := ⟨gn', q, none⟩) ((HB.out.block gn' (by omega)).trans (wEq_old w _ _ hg'))).trans hc'
      have i1 : (q : Int) < (N : Int) := by omega
      have i2 : (0 : Int) ≤ (q : Int) := by omega
      have hd : decide ((q : Int) < (N : Int)) = true := by simp; omega
      clear hc hc' y4
      go_wp2_with fail
      go_quiet (fail)
      go_wp2_with fail
      go_roundw
      case rel => exact ⟨q + 1, by omega, by go_num, below_drewN HB.out nq⟩
      case measure => simp [intOf]; omega
    · have hqe : q = N := by omega
      subst hqe
      clear hlt hq y3' y4
      go_wp2_with fail
      clear y3
      go_loopw [6] (fun i wr => ∃ p : Nat, p ≤ M ∧ i = .int .i64 p ∧ Hid (Below (w.heap.size + 2) (wEq w #[.int .i64 kd, .int .i64 x, .string s, .slice a1 q c1, .slice a2 M c2] #[.int .i64 kd, .int .i64 x, .string s, .slice b1 q d1, .slice b2 M d2]) wr)) (fun i wr => M - (intOf i).toNat)
      case atStart => exact ⟨0, Nat.zero_le _, rfl, HB⟩
      case round =>
        clear HB
        obtain ⟨p, hp, rfl, HB⟩ := hrel
        have hv := (HB.out.block w.heap.size (by omega)).trans (wEq_0 w _ _)
        have hv' := (HB.out.block (w.heap.size + 1) (by omega)).trans (wEq_1 w _ _)
        have y4 : wr.cell? ⟨w.heap.size, 4, none⟩ = some (.slice a2 M c2) := cell_of hv 4
        have y4' : wr.cell? ⟨w.heap.size + 1, 4, none⟩ = some (.slice b2 M d2) := cell_of hv' 4
        clear hv hv'
        by_cases hlt : p < M
        · obtain ⟨g, g', kd2, x2, s2, p1, l1, e1, p2, l2, e2, q1, f1, q2, f2, rfl, rfl, hg, hg', hia, hia', hcall⟩ := hI.out p hlt
          have HC := hid' hcall
          have i1 : (p : Int) < (M : Int) := by omega
          have i2 : (0 : Int) ≤ (p : Int) := by omega
          have hd : decide ((p : Int) < (M : Int)) = true := by simp; omega
          obtain ⟨z0, z1, z2, z3, z4⟩ := hia.keep ((HB.out.block g (by omega)).trans (wEq_old w _ _ hg))
          obtain ⟨v0, v1, v2, v3, v4⟩ := hia'.keep ((HB.out.block g' (by omega)).trans (wEq_old w _ _ hg'))
          clear hia hia' hcall
          go_wp2_with fail
          refine wp_region_quiet (C := fun w' => Below (w.heap.size + 2) wr w') (by kernel_rfl) (by kernel_rfl) (below_drewN (Below.refl _ _) 1) ?_
          have C4 : ∀ w', Below (w.heap.size + 2) wr w' → w'.cell? ⟨w.heap.size, 4, none⟩ = some (.slice (some ⟨g, 0, none⟩) M c2) := fun w' h => (Below.cell h (by omega)).trans y4
          have C4' : ∀ w', Below (w.heap.size + 2) wr w' → w'.cell? ⟨w.heap.size + 1, 4, none⟩ = some (.slice (some ⟨g', 0, none⟩) M d2) := fun w' h => (Below.cell h (by omega)).trans y4'
          refine wpQuiet_step (fun K hK => ?_)
          go_simp
          refine ⟨_, fun _ _ => rfl, hK _ ?_⟩
          clear hK K
          refine wpQuiet_step (fun K hK => ?_)
          refine ⟨.slice (some ⟨g, 0, none⟩) M c2, fun w' hw' => ?_, hK _ ?_⟩
          · have := C4 w' hw'
            go_simp
          clear hK K
          refine wpQuiet_step (fun K hK => ?_)
          go_simp
          refine ⟨_, fun _ _ => rfl, hK _ ?_⟩
          clear hK K
          refine wpQuiet_step (fun K hK => ?_)
          go_simp
          refine ⟨_, fun _ _ => rfl, hK _ ?_⟩
          clear hK K
          refine wpQuiet_step (fun K hK => ?_)
          refine ⟨.agg #[.int .i64 kd2, .int .i64 x2, .string s2, .slice p1 l1 e1, .slice p2 l2 e2], fun w' hw' => ?_, hK _ ?_⟩
          · have t0 := (Below.cell (o := p * 5) hw' (show g < w.heap.size + 2 by omega)).trans z0
            have t1 := (Below.cell (o := p * 5 + 1) hw' (show g < w.heap.size + 2 by omega)).trans z1
            have t2 := (Below.cell (o := p * 5 + 2) hw' (show g < w.heap.size + 2 by omega)).trans z2
            have t3 := (Below.cell (o := p * 5 + 3) hw' (show g < w.heap.size + 2 by omega)).trans z3
            have t4 := (Below.cell (o := p * 5 + 4) hw' (show g < w.heap.size + 2 by omega)).trans z4
            go_simp
          clear hK K
          refine wpQuiet_step (fun K hK => ?_)
          go_simp
          refine ⟨_, fun _ _ => rfl, hK _ ?_⟩
          clear hK K
          refine wpQuiet_step (fun K hK => ?_)
          refine ⟨.slice (some ⟨g', 0, none⟩) M d2, fun w' hw' => ?_, hK _ ?_⟩
          · have := C4' w' hw'
            go_simp
          clear hK K
          refine wpQuiet_step (fun K hK => ?_)
          go_simp
          refine ⟨_, fun _ _ => rfl, hK _ ?_⟩
          clear hK K
          refine wpQuiet_step (fun K hK => ?_)
          go_simp
          refine ⟨_, fun _ _ => rfl, hK _ ?_⟩
          clear hK K
          refine wpQuiet_step (fun K hK => ?_)
          refine ⟨.agg #[.int .i64 kd2, .int .i64 x2, .string s2, .slice q1 l1 f1, .slice q2 l2 f2], fun w' hw' => ?_, hK _ ?_⟩
          · have t0 := (Below.cell (o := p * 5) hw' (show g' < w.heap.size + 2 by omega)).trans v0
            have t1 := (Below.cell (o := p * 5 + 1) hw' (show g' < w.heap.size + 2 by omega)).trans v1
            have t2 := (Below.cell (o := p * 5 + 2) hw' (show g' < w.heap.size + 2 by omega)).trans v2
            have t3 := (Below.cell (o := p * 5 + 3) hw' (show g' < w.heap.size + 2 by omega)).trans v3
            have t4 := (Below.cell (o := p * 5 + 4) hw' (show g' < w.heap.size + 2 by omega)).trans v4
            go_simp
          clear hK K
          refine wpQuiet_step (fun K hK => ?_)
          refine ⟨.bool true, fun w' hw' => ?_, hK _ ?_⟩
          · go_simp
            have hbb : Below w.heap.size w w' := ((wEq_below w _ _).trans (HB.out.mono (by omega))).trans (hw'.mono (by omega))
            refine (HC.out w' hbb).mono ?_
            rintro e w'' ⟨rfl, hb⟩
            exact ⟨rfl, hw'.trans (hb.mono (by have := hw'.size; have := HB.out.size; rw [wEq_size] at this; omega))⟩
          clear hK K
          refine wpQuiet_step (fun K hK => ?_)
          go_simp
          refine ⟨_, fun _ _ => rfl, hK _ ?_⟩
          clear hK K
          refine wpQuiet_nil ?_
          intro w' hw'
          have HB' : Hid (Below (w.heap.size + 2) (wEq w #[.int .i64 kd, .int .i64 x, .string s, .slice a1 q c1, .slice (some ⟨g, 0, none⟩) M c2] #[.int .i64 kd, .int .i64 x, .string s, .slice b1 q d1, .slice (some ⟨g', 0, none⟩) M d2]) w') := HB.out.trans hw'
          clear hw' C4 C4' y4 y4' z0 z1 z2 z3 z4 v0 v1 v2 v3 v4
          go_wp2_with fail
          go_roundw
          case rel => exact ⟨p + 1, by omega, by go_num, HB'⟩
          case measure => simp [intOf]; omega
        · go_wp2_with fail
          go_ret
          exact ⟨rfl, (wEq_below w _ _).trans (HB.out.mono (by omega))⟩

/-- The same value twice: the cells agree but for where the lists lie. -/
theorem Rep.same {w : World} {lo hi lo' hi' : Nat} {kd x kd' x' : Int} {s s' : ByteArray} {a1 : Option Addr} {l1 c1 : Nat} {a2 : Option Addr} {l2 c2 : Nat} {b1 : Option Addr} {m1 d1 : Nat} {b2 : Option Addr} {m2 d2 : Nat} : (j : J) →
    Rep w lo hi j (five kd x s (.slice a1 l1 c1) (.slice a2 l2 c2)) → Rep w lo' hi' j (five kd' x' s' (.slice b1 m1 d1) (.slice b2 m2 d2)) → kd = kd' ∧ x = x' ∧ s = s' ∧ l1 = m1 ∧ l2 = m2
  | .null, h, h' => by
    obtain ⟨rfl, rfl, rfl, e1, e2⟩ := five_inj (show five kd x s _ _ = five 0 0 noS nilS nilS from h)
    obtain ⟨rfl, rfl, rfl, f1, f2⟩ := five_inj (show five kd' x' s' _ _ = five 0 0 noS nilS nilS from h')
    simp only [nilS, Value.slice.injEq] at e1 e2 f1 f2
    exact ⟨rfl, rfl, rfl, by omega, by omega⟩
  | .fls, h, h' => by
    obtain ⟨rfl, rfl, rfl, e1, e2⟩ := five_inj (show five kd x s _ _ = five 1 0 noS nilS nilS from h)
    obtain ⟨rfl, rfl, rfl, f1, f2⟩ := five_inj (show five kd' x' s' _ _ = five 1 0 noS nilS nilS from h')
    simp only [nilS, Value.slice.injEq] at e1 e2 f1 f2
    exact ⟨rfl, rfl, rfl, by omega, by omega⟩
  | .tru, h, h' => by
    obtain ⟨rfl, rfl, rfl, e1, e2⟩ := five_inj (show five kd x s _ _ = five 2 0 noS nilS nilS from h)
    obtain ⟨rfl, rfl, rfl, f1, f2⟩ := five_inj (show five kd' x' s' _ _ = five 2 0 noS nilS nilS from h')
    simp only [nilS, Value.slice.injEq] at e1 e2 f1 f2
    exact ⟨rfl, rfl, rfl, by omega, by omega⟩
  | .int y, h, h' => by
    obtain ⟨rfl, rfl, rfl, e1, e2⟩ := five_inj (show five kd x s _ _ = five 3 y noS nilS nilS from h)
    obtain ⟨rfl, rfl, rfl, f1, f2⟩ := five_inj (show five kd' x' s' _ _ = five 3 x noS nilS nilS from h')
    simp only [nilS, Value.slice.injEq] at e1 e2 f1 f2
    exact ⟨rfl, rfl, rfl, by omega, by omega⟩
  | .text t, h, h' => by
    obtain ⟨rfl, rfl, rfl, e1, e2⟩ := five_inj (show five kd x s _ _ = five 4 0 t nilS nilS from h)
    obtain ⟨rfl, rfl, rfl, f1, f2⟩ := five_inj (show five kd' x' s' _ _ = five 4 0 s nilS nilS from h')
    simp only [nilS, Value.slice.injEq] at e1 e2 f1 f2
    exact ⟨rfl, rfl, rfl, by omega, by omega⟩
  | .list l, h, h' => by
    unfold Rep at h h'
    obtain ⟨it, xs, h1, h2, _, _⟩ := h
    obtain ⟨it', xs', h1', h2', _, _⟩ := h'
    obtain ⟨rfl, rfl, rfl, e1, rfl⟩ := five_inj h1
    obtain ⟨rfl, rfl, rfl, f1, rfl⟩ := five_inj h1'
    simp only [nilS, Value.slice.injEq] at e1 f1
    exact ⟨rfl, rfl, rfl, by omega, by rw [(own_form h2).1, (own_form h2').1]⟩
  | .obj ns l, h, h' => by
    unfold Rep at h h'
    obtain ⟨nm, it, xs, h1, hn, _, h2, _, _, _⟩ := h
    obtain ⟨nm', it', xs', h1', hn', _, h2', _, _, _⟩ := h'
    obtain ⟨rfl, rfl, rfl, rfl, rfl⟩ := five_inj h1
    obtain ⟨rfl, rfl, rfl, rfl, rfl⟩ := five_inj h1'
    exact ⟨rfl, rfl, rfl, by rw [(own_form hn).1, (own_form hn').1], by rw [(own_form h2).1, (own_form h2').1]⟩
def EqOk (j : J) : Prop := ∀ (lo hi lo' hi' : Nat) (w : World) (kd x : Int) (s : ByteArray) (a1 : Option Addr) (l1 c1 : Nat) (a2 : Option Addr) (l2 c2 : Nat) (b1 : Option Addr) (d1 : Nat) (b2 : Option Addr) (d2 : Nat), Rep w lo hi j (five kd x s (.slice a1 l1 c1) (.slice a2 l2 c2)) → Rep w lo' hi' j (five kd x s (.slice b1 l1 d1) (.slice b2 l2 d2)) → hi ≤ w.heap.size → hi' ≤ w.heap.size → smJ j → wfJ j →
  Calls Tryd.prog 10 #[.agg #[.int .i64 kd, .int .i64 x, .string s, .slice a1 l1 c1, .slice a2 l2 c2], .agg #[.int .i64 kd, .int .i64 x, .string s, .slice b1 l1 d1, .slice b2 l2 d2]] w fun e w' => e = .returned (.bool true) ∧ Below w.heap.size w w'
theorem wfL.get : (l : List J) → wfL l → ∀ j ∈ l, wfJ j
  | [], _, j, h => absurd h (by simp)
  | i :: js, h, j, hj => by
    unfold wfL at h
    rcases List.mem_cons.1 hj with rfl | hj
    · exact h.1
    · exact wfL.get js h.2 j hj
theorem items_eq {w : World} {lo hi lo' hi' la lb g g' cap cap' : Nat} {obs obs' : List Nat} {l : List J} {xs xs' : List Value} (hown : w.ownsRow la 28 5 (.slice (some ⟨g, 0, none⟩) l.length cap) l.length xs) (hown' : w.ownsRow lb 28 5 (.slice (some ⟨g', 0, none⟩) l.length cap') l.length xs') (hrep : RepL w lo hi obs l xs) (hrep' : RepL w lo' hi' obs' l xs') (hhi : hi ≤ w.heap.size) (hhi' : hi' ≤ w.heap.size) (hsm : smL l) (hwf : wfL l) (hIH : ∀ j ∈ l, EqOk j) (hg : g < w.heap.size) (hg' : g' < w.heap.size) :
    ∀ i, i < l.length → ∃ (h h' : Nat) (kd2 x2 : Int) (s2 : ByteArray) (p1 : Option Addr) (l1 e1 : Nat) (p2 : Option Addr) (l2 e2 : Nat) (q1 : Option Addr) (f1 : Nat) (q2 : Option Addr) (f2 : Nat), some (⟨g, 0, none⟩ : Addr) = some ⟨h, 0, none⟩ ∧ some (⟨g', 0, none⟩ : Addr) = some ⟨h', 0, none⟩ ∧ h < w.heap.size ∧ h' < w.heap.size ∧
      ItemAt w h i kd2 x2 s2 p1 l1 e1 p2 l2 e2 ∧ ItemAt w h' i kd2 x2 s2 q1 l1 f1 q2 l2 f2 ∧ ∀ w', Below w.heap.size w w' → Calls Tryd.prog 10 #[.agg #[.int .i64 kd2, .int .i64 x2, .string s2, .slice p1 l1 e1, .slice p2 l2 e2], .agg #[.int .i64 kd2, .int .i64 x2, .string s2, .slice q1 l1 f1, .slice q2 l2 f2]] w' fun e w'' => e = .returned (.bool true) ∧ Below w'.heap.size w' w'' := by
  intro i hi1
  obtain ⟨ra, rb, r1, r2, r3, r4⟩ := RepL.get l xs hrep i hi1
  obtain ⟨kd, x, s, a1, l1, c1, a2, l2, c2, hf⟩ := r4.form
  obtain ⟨ta, tb, t1, t2, t3, t4⟩ := RepL.get l xs' hrep' i hi1
  obtain ⟨kd', x', s', b1, m1, d1, b2, m2, d2, hf'⟩ := t4.form
  have r5 := r4
  have t5 := t4
  rw [hf] at r5
  rw [hf'] at t5
  obtain ⟨rfl, rfl, rfl, rfl, rfl⟩ := Rep.same _ r5 t5
  have hm := List.getElem_mem hi1
  refine ⟨g, g', kd, x, s, a1, l1, c1, a2, l2, c2, b1, d1, b2, d2, rfl, rfl, hg, hg', item_at hown hi1 hf, item_at hown' hi1 hf', fun w' hb => ?_⟩
  exact hIH l[i] hm ra rb ta tb w' kd x s a1 l1 c1 a2 l2 c2 b1 d1 b2 d2 (Rep.keep _ _ r5 (fun k ka kb => hb.block k (by omega))) (Rep.keep _ _ t5 (fun k ka kb => hb.block k (by omega))) (by have := hb.size; omega) (by have := hb.size; omega) (smL.get l hsm _ hm) (wfL.get l hwf _ hm)
theorem eq_flat (kd x : Int) (s : ByteArray) (a1 : Option Addr) (l1 c1 : Nat) (a2 : Option Addr) (l2 c2 : Nat) (b1 : Option Addr) (d1 : Nat) (b2 : Option Addr) (d2 : Nat) (w : World) (h1 : l1 = 0) (h2 : l2 = 0) :
    Calls Tryd.prog 10 #[.agg #[.int .i64 kd, .int .i64 x, .string s, .slice a1 l1 c1, .slice a2 l2 c2], .agg #[.int .i64 kd, .int .i64 x, .string s, .slice b1 l1 d1, .slice b2 l2 d2]] w fun e w' => e = .returned (.bool true) ∧ Below w.heap.size w w' :=
  eq_any kd x s a1 l1 c1 a2 l2 c2 b1 d1 b2 d2 w (by omega) (by omega) (fun i hi => by omega) (fun i hi => by omega)
theorem equal_all : (j : J) → EqOk j
  | .null => fun lo hi lo' hi' w kd x s a1 l1 c1 a2 l2 c2 b1 d1 b2 d2 hr hr' hh hh' hsm hwf => by
    obtain ⟨rfl, rfl, rfl, e1, e2⟩ := five_inj (show five kd x s _ _ = five 0 0 noS nilS nilS from hr)
    simp only [nilS, Value.slice.injEq] at e1 e2
    exact eq_flat _ _ _ a1 l1 c1 a2 l2 c2 b1 d1 b2 d2 w e1.2.1 e2.2.1
  | .fls => fun lo hi lo' hi' w kd x s a1 l1 c1 a2 l2 c2 b1 d1 b2 d2 hr hr' hh hh' hsm hwf => by
    obtain ⟨rfl, rfl, rfl, e1, e2⟩ := five_inj (show five kd x s _ _ = five 1 0 noS nilS nilS from hr)
    simp only [nilS, Value.slice.injEq] at e1 e2
    exact eq_flat _ _ _ a1 l1 c1 a2 l2 c2 b1 d1 b2 d2 w e1.2.1 e2.2.1
  | .tru => fun lo hi lo' hi' w kd x s a1 l1 c1 a2 l2 c2 b1 d1 b2 d2 hr hr' hh hh' hsm hwf => by
    obtain ⟨rfl, rfl, rfl, e1, e2⟩ := five_inj (show five kd x s _ _ = five 2 0 noS nilS nilS from hr)
    simp only [nilS, Value.slice.injEq] at e1 e2
    exact eq_flat _ _ _ a1 l1 c1 a2 l2 c2 b1 d1 b2 d2 w e1.2.1 e2.2.1
  | .int y => fun lo hi lo' hi' w kd x s a1 l1 c1 a2 l2 c2 b1 d1 b2 d2 hr hr' hh hh' hsm hwf => by
    obtain ⟨rfl, rfl, rfl, e1, e2⟩ := five_inj (show five kd x s _ _ = five 3 y noS nilS nilS from hr)
    simp only [nilS, Value.slice.injEq] at e1 e2
    exact eq_flat _ _ _ a1 l1 c1 a2 l2 c2 b1 d1 b2 d2 w e1.2.1 e2.2.1
  | .text t => fun lo hi lo' hi' w kd x s a1 l1 c1 a2 l2 c2 b1 d1 b2 d2 hr hr' hh hh' hsm hwf => by
    obtain ⟨rfl, rfl, rfl, e1, e2⟩ := five_inj (show five kd x s _ _ = five 4 0 t nilS nilS from hr)
    simp only [nilS, Value.slice.injEq] at e1 e2
    exact eq_flat _ _ _ a1 l1 c1 a2 l2 c2 b1 d1 b2 d2 w e1.2.1 e2.2.1
  | .list l => fun lo hi lo' hi' w kd x s a1 l1 c1 a2 l2 c2 b1 d1 b2 d2 hr hr' hh hh' hsm hwf => by
    have hIH : ∀ j ∈ l, EqOk j := fun j hj => equal_all j
    unfold Rep at hr hr'
    obtain ⟨it, xs, h1, h2, h3, h4⟩ := hr
    obtain ⟨it', xs', h1', h2', h3', h4'⟩ := hr'
    obtain ⟨rfl, rfl, rfl, e1, rfl⟩ := five_inj h1
    obtain ⟨-, -, -, f1, rfl⟩ := five_inj h1'
    simp only [nilS, Value.slice.injEq] at e1 f1
    unfold smJ at hsm
    unfold wfJ at hwf
    obtain ⟨rfl, hn⟩ := own_form h2
    obtain ⟨-, hn'⟩ := own_form h2'
    refine eq_any _ _ _ a1 l1 c1 a2 l.length c2 b1 d1 b2 d2 w (by omega) hsm.1 (fun i hi => by omega) ?_
    rcases hn with h0 | ⟨g, rfl, hg⟩
    · intro i hi; omega
    · rcases hn' with h0 | ⟨g', rfl, hg'⟩
      · intro i hi; omega
      · exact items_eq h2 h2' h4 h4' hh hh' hsm.2 hwf hIH hg hg'
  | .obj ns l => fun lo hi lo' hi' w kd x s a1 l1 c1 a2 l2 c2 b1 d1 b2 d2 hr hr' hh hh' hsm hwf => by
    have hIH : ∀ j ∈ l, EqOk j := fun j hj => equal_all j
    unfold Rep at hr hr'
    obtain ⟨nm, it, xs, h1, hnm, hnb, h2, h3, heq, h4⟩ := hr
    obtain ⟨nm', it', xs', h1', hnm', hnb', h2', h3', heq', h4'⟩ := hr'
    obtain ⟨rfl, rfl, rfl, rfl, rfl⟩ := five_inj h1
    obtain ⟨-, -, -, rfl, rfl⟩ := five_inj h1'
    unfold smJ at hsm
    unfold wfJ at hwf
    obtain ⟨rfl, hn⟩ := own_form h2
    obtain ⟨-, hn'⟩ := own_form h2'
    obtain ⟨rfl, hm⟩ := own_form hnm
    obtain ⟨-, hm'⟩ := own_form hnm'
    refine eq_any _ _ _ a1 ns.length c1 a2 l.length c2 b1 d1 b2 d2 w (by omega) hsm.1 ?_ ?_
    · rcases hm with h0 | ⟨gn, rfl, hg⟩
      · intro i hi; omega
      · rcases hm' with h0 | ⟨gn', rfl, hg'⟩
        · intro i hi; omega
        · intro i hi
          exact ⟨gn, gn', nth ns i, rfl, rfl, hg, hg', names_cells hnm i hi, names_cells hnm' i hi⟩
    · rcases hn with h0 | ⟨g, rfl, hg⟩
      · intro i hi; omega
      · rcases hn' with h0 | ⟨g', rfl, hg'⟩
        · intro i hi; omega
        · exact items_eq h2 h2' h4 h4' hh hh' hsm.2.2 hwf.2 hIH hg hg'
end Go.Proofs.YtgohjkblfojmaaaDoor
