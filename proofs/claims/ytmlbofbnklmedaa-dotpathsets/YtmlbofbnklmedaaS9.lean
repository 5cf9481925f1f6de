import Derived.Test.YtmlbofbnklmedaaS6
import Derived.LoopIn
/-! slices.Backward over a list of turns of any length. -/
namespace Go.Proofs.Ytmlbofbnklmedaa
open Go Go.RowKit Go.Shelf
attribute [local go_sem] Oper.semAt_some

/-- A turn. -/
structure Trn where
  k : Int
  x : Int
  tx : ByteArray
  ns : List ByteArray
  its : List Tr
  an : Option Addr
  cn : Nat
  ai : Option Addr
  ci : Nat
  sg : ByteArray
  m : Nat
def Trn.cells (t : Trn) : List Value := [.int .i64 t.k, .int .i64 t.x, .string t.tx, .slice t.an t.ns.length t.cn, .slice t.ai t.its.length t.ci, .string t.sg, .int .i64 t.m]
/-- The order in which Backward goes. -/
def backs (n q : Nat) : List Nat := (List.range q).map (n - 1 - ·)
theorem backs_succ (n q : Nat) : backs n (q + 1) = backs n q ++ [n - 1 - q] := by simp [backs, List.range_succ]
theorem backs_len (n q : Nat) : (backs n q).length = q := by simp [backs]

/-- What A has in the blocks of U, in cells, B has too. -/
def KpU (U : Nat → Prop) (A B : World) : Prop := ∀ p u, U p.block → A.cell? p = some u → B.cell? p = some u
theorem KpU.trans {U : Nat → Prop} {A B C : World} (h : KpU U A B) (h' : KpU U B C) : KpU U A C := fun p u hp hc => h' p u hp (h p u hp hc)
set_option maxRecDepth 100000 in
set_option maxHeartbeats 1000000 in
theorem back_t_n (F : Fence) (r : Nat) (hf : F.fn 63) (hro : F.round = none) (hr : 1 ≤ r) (Bs n c : Nat) (a : Option Addr) (tf : Nat → Trn) (U : Nat → Prop) (w : World) (hBs : Bs < w.heap.size) (hUB : U Bs) (hn : n ≤ 9223372036854775807)
    (hc : w.cell? ⟨Bs, 0, none⟩ = some (.slice a n c)) (hs : ∀ i, i < n → ∃ g o, a = some ⟨g, o, none⟩ ∧ U g ∧ CellsAt w g (o + i * 7) (tf i).cells) :
    SeqStopsK F r Try.prog 63 #[.pointer (some ⟨Bs, 0, none⟩)] (fun i : Nat => #[Value.int .i64 i, Value.agg (tf i).cells.toArray]) (KpU U) (fun ys => ys = backs n n) (fun _ => True) n w := fun l J Jx W hW _ _ hY h0 => by
  have hc' := (hW.cell (p := ⟨Bs, 0, none⟩) hBs).trans hc
  refine callsIn_of_wp Try.func63 rfl hf ?_ hro
  simp only [Try.ntmps63, List.size_toArray, List.length_cons, List.length_nil, Nat.reduceAdd, Nat.reduceSub, Array.replicate_succ, Array.replicate_zero, List.push_toArray, List.append_toArray, List.nil_append, List.cons_append]
  gi_wp2
  replace hs := hid_of hs; replace hW := hid_of hW; replace hY := hid_of hY
  gi_loopw [3] (fun i wr => ∃ q : Nat, q ≤ n ∧ i = .int .i64 ((n : Int) - 1 - q) ∧ Hid (J (backs n q) wr) ∧ Hid (KpU U W wr)) (fun i _ => (intOf i + 1).toNat)
  case atStart => exact ⟨0, Nat.zero_le _, by simp, hid_of h0, hid_of (fun _ _ _ h => h)⟩
  case round =>
    obtain ⟨q, hq, rfl, hJ, hK⟩ := hrel
    by_cases hlt : q < n
    · obtain ⟨j, hj⟩ : ∃ j : Nat, (n : Int) - 1 - q = (j : Int) := ⟨n - 1 - q, by omega⟩
      have hjq : n - 1 - q = j := by omega
      have hjn : j < n := by omega
      obtain ⟨g, o, rfl, hUg, hcl⟩ := hs.out j hjn
      have cB : wr.cell? ⟨Bs, 0, none⟩ = some (.slice (some ⟨g, o, none⟩) n c) := hK.out _ _ hUB hc'
      have cT : ∀ e u, (tf j).cells[e]? = some u → wr.cell? ⟨g, o + j * 7 + e, none⟩ = some u := fun e u he => hK.out _ _ hUg ((hW.out.cell (cell_lt (hcl e u he))).trans (hcl e u he))
      have c0 : wr.cell? ⟨g, o + j * 7, none⟩ = some (.int .i64 (tf j).k) := cT 0 _ rfl
      have c1 : wr.cell? ⟨g, o + j * 7 + 1, none⟩ = some (.int .i64 (tf j).x) := cT 1 _ rfl
      have c2 : wr.cell? ⟨g, o + j * 7 + 2, none⟩ = some (.string (tf j).tx) := cT 2 _ rfl
      have c3 : wr.cell? ⟨g, o + j * 7 + 3, none⟩ = some (.slice (tf j).an (tf j).ns.length (tf j).cn) := cT 3 _ rfl
      have c4 : wr.cell? ⟨g, o + j * 7 + 4, none⟩ = some (.slice (tf j).ai (tf j).its.length (tf j).ci) := cT 4 _ rfl
      have c5 : wr.cell? ⟨g, o + j * 7 + 5, none⟩ = some (.string (tf j).sg) := cT 5 _ rfl
      have c6 : wr.cell? ⟨g, o + j * 7 + 6, none⟩ = some (.int .i64 (tf j).m) := cT 6 _ rfl
      clear cT hcl
      have i1 : (j : Int) < (n : Int) := by omega
      have i2 : (0 : Int) ≤ (j : Int) := by omega
      have hd : decide ((0 : Int) ≤ (j : Int)) = true := by simp
      obtain ⟨fn, tmps, assign, body, hy, hR⟩ := hY.out (backs n q) j wr hJ.out (by rw [backs_len]; exact hlt)
      unfold Trn.cells at hy
      rw [hj]
      gi_wp2
      refine hR.mono ?_
      rintro e W3 (⟨rfl, hJ3, hk3⟩ | ⟨rfl, hJx3⟩)
      · have hJ' : Hid (J (backs n (q + 1)) W3) := hid_of (by rw [backs_succ, hjq]; exact hJ3)
        have hK' : Hid (KpU U W W3) := hid_of (hK.out.trans hk3)
        gi_wp2
        go_roundw
        case rel => exact ⟨q + 1, by omega, by congr 1; omega, hJ', hK'⟩
        case measure => first | (simp [intOf]; done) | (simp [intOf]; omega)
      · gi_wp2
        refine bodyPost_ret (results_none rfl _ _ _) rfl ?_
        exact ⟨⟨_, rfl⟩, .inr ⟨_, trivial, hJx3⟩⟩
    · obtain rfl : q = n := by omega
      have hd : decide ((0 : Int) ≤ ((q : Int) - 1 - q)) = false := by simp; omega
      gi_wp2
      go_end0
      exact ⟨⟨_, rfl⟩, .inl ⟨_, rfl, hJ.out⟩⟩
end Go.Proofs.Ytmlbofbnklmedaa
/-! The way up, of any length. -/
namespace Go.Proofs.Ytmlbofbnklmedaa
open Go Go.RowKit Go.Shelf
attribute [local go_sem] Oper.semAt_some

/-- A turn that may be gone up. -/
def Trn.Good (w0 : World) (t : Trn) : Prop := (t.k = 5 ∨ t.k = 6) ∧ t.m ≤ (keepIts t.k t.ns t.its).length ∧ (t.its.length + 1) * 80 ≤ 140737488355328 ∧ VRep w0 (.node t.k t.x t.tx t.ns t.its) (five t.k t.x t.tx (.slice t.an t.ns.length t.cn) (.slice t.ai t.its.length t.ci))
def Trn.up (t : Trn) (X : Tr) : Tr := withT t.k t.ns t.its t.sg t.m X
def ups (tf : Nat → Trn) (l : List Nat) (X : Tr) : Tr := l.foldl (fun X i => (tf i).up X) X
theorem Seen.agree {W W' : World} {S : Nat → Prop} {t : Tr} {cs : List Value} (h : Seen W S t cs) (ha : Agree S W W') : Seen W' S t cs := fun W'' hb => h W'' ⟨Nat.le_trans ha.1 hb.1, fun p u hp hc => hb.2 p u hp (ha.2 p u hp hc)⟩
theorem Seen.wide {W : World} {S S' : Nat → Prop} {t : Tr} {cs : List Value} (h : Seen W S t cs) (hS : ∀ k, S k → S' k) : Seen W S' t cs := fun W' ha => h W' ⟨ha.1, fun p u hp hc => ha.2 p u (hS _ hp) hc⟩

set_option maxRecDepth 100000 in
set_option maxHeartbeats 2000000 in
theorem up_any (w0 w : World) (h0 : Below w0.heap.size w0 w) (n c : Nat) (hn : n ≤ 9223372036854775807) (a : Option Addr) (tf : Nat → Trn) (hG : 0 < n → ∀ i, (tf i).Good w0) (hT : ∀ i, i < n → ∃ g o, a = some ⟨g, o, none⟩ ∧ CellsAt w g (o + i * 7) (tf i).cells)
    (k1 x1 : Int) (s1 : ByteArray) (an1 : Option Addr) (ln1 cn1 : Nat) (ai1 : Option Addr) (li1 ci1 : Nat) (X : Tr) (S : Nat → Prop) (hS : ∀ k, S k → k < w.heap.size) (hS0 : ∀ k, k < w0.heap.size → S k) (hX : Seen w S X (five k1 x1 s1 (.slice an1 ln1 cn1) (.slice ai1 li1 ci1))) :
    Calls Try.prog 29 #[.slice a n c, .agg #[.int .i64 k1, .int .i64 x1, .string s1, .slice an1 ln1 cn1, .slice ai1 li1 ci1]] w fun e w' => Below w.heap.size w w' ∧ ∃ cs, e = .returned (.agg cs.toArray) ∧ Seen w' (fun k => S k ∨ w.heap.size + 1 < k) (ups tf (backs n n) X) cs := by
  refine (callsIn_wide (n := 5)).1 ?_
  have hro : Fence.wide.round = none := rfl
  refine callsIn_of_wp_marks Try.func29 rfl trivial ?_ hro
  simp only [Try.ntmps29, List.size_toArray, List.length_cons, List.length_nil, Nat.reduceAdd, Nat.reduceSub, Array.replicate_succ, Array.replicate_zero, List.push_toArray, List.append_toArray, List.nil_append, List.cons_append]
  gi_wp2_with (refine ⟨trivial, ?_⟩; gi_at_call 47; refine (back_t_in Fence.wide _ trivial hro _ _ _ _).mono ?_; rintro e w' ⟨rfl, rfl⟩)
  have hB0 : ∀ o1 o2 o3, Below w.heap.size w (((w.alloc o1).alloc o2).alloc o3) := fun o1 o2 o3 => (((Below.refl _ w).alloc (Nat.le_refl _) o1).alloc (by simp) o2).alloc (by simp; omega) o3
  have hn1 : ∀ o1 o2 o3, (((w.alloc o1).alloc o2).alloc o3).heap[w.heap.size]? = some o1 := fun o1 o2 o3 => by
    rw [Below.heap_alloc _ _ _ (by simp; omega)]; exact new1 w o1 o2
  have hn2 : ∀ o1 o2 o3, (((w.alloc o1).alloc o2).alloc o3).heap[w.heap.size + 1]? = some o2 := fun o1 o2 o3 => by
    rw [Below.heap_alloc _ _ _ (by simp)]; exact new2 w o1 o2
  have hn3 : ∀ o1 o2 o3, (((w.alloc o1).alloc o2).alloc o3).heap[w.heap.size + 1 + 1]? = some o3 := fun o1 o2 o3 => by
    have := heap_alloc_new ((w.alloc o1).alloc o2) o3
    rw [World.size_alloc, World.size_alloc] at this
    exact this
  obtain ⟨W0, hW0⟩ : ∃ W0, (((w.alloc (.cells #[.int .i64 k1, .int .i64 x1, .string s1, .slice an1 ln1 cn1, .slice ai1 li1 ci1] 25)).alloc (.cells #[.int .i64 0, .int .i64 0, .string ⟨#[]⟩, .slice none 0 0, .slice none 0 0] 25)).alloc (.cells #[.slice a n c] 55)) = W0 := ⟨_, rfl⟩
  have r0 := hn1 (.cells #[.int .i64 k1, .int .i64 x1, .string s1, .slice an1 ln1 cn1, .slice ai1 li1 ci1] 25) (.cells #[.int .i64 0, .int .i64 0, .string ⟨#[]⟩, .slice none 0 0, .slice none 0 0] 25) (.cells #[.slice a n c] 55)
  have r1 := hn2 (.cells #[.int .i64 k1, .int .i64 x1, .string s1, .slice an1 ln1 cn1, .slice ai1 li1 ci1] 25) (.cells #[.int .i64 0, .int .i64 0, .string ⟨#[]⟩, .slice none 0 0, .slice none 0 0] 25) (.cells #[.slice a n c] 55)
  have r2 := hn3 (.cells #[.int .i64 k1, .int .i64 x1, .string s1, .slice an1 ln1 cn1, .slice ai1 li1 ci1] 25) (.cells #[.int .i64 0, .int .i64 0, .string ⟨#[]⟩, .slice none 0 0, .slice none 0 0] 25) (.cells #[.slice a n c] 55)
  have hb0 := hB0 (.cells #[.int .i64 k1, .int .i64 x1, .string s1, .slice an1 ln1 cn1, .slice ai1 li1 ci1] 25) (.cells #[.int .i64 0, .int .i64 0, .string ⟨#[]⟩, .slice none 0 0, .slice none 0 0] 25) (.cells #[.slice a n c] 55)
  have hsz : W0.heap.size = w.heap.size + 3 := by rw [← hW0]; simp
  clear hB0 hn1 hn2 hn3
  rw [hW0] at r0 r1 r2 hb0
  rw [hW0]
  clear hW0
  have sB : W0.cell? ⟨w.heap.size + 1 + 1, 0, none⟩ = some (.slice a n c) := by simp [World.cell?, r2]
  have hT0 : ∀ i, i < n → ∃ g o, a = some ⟨g, o, none⟩ ∧ (g = w.heap.size + 1 + 1 ∨ g < w.heap.size) ∧ CellsAt W0 g (o + i * 7) (tf i).cells := fun i hi => by
    obtain ⟨g, o, e, hc⟩ := hT i hi
    have hlt : g < w.heap.size := cell_lt (hc 0 _ rfl)
    exact ⟨g, o, e, .inr hlt, hc.keep hb0 hlt⟩
  refine wpIn_rangeFunc_ownH hro (by decide) (gf := 63) (lb := #[.pointer (some ⟨w.heap.size + 1 + 1, 0, none⟩)]) rfl trivial (enters_of Try.func63 (by kernel_rfl) rfl)
    (back_t_n Fence.wide _ trivial hro (by decide) (w.heap.size + 1 + 1) n c a tf (fun j => j = w.heap.size + 1 + 1 ∨ j < w.heap.size) W0 (by omega) (.inl rfl) hn sB hT0) KpU.trans (fun W l o o' hl ho hc _ p u _ hu => cell_kept hu (grownBy_putObj' W l o') (fun r e => by cases e; exact ⟨o, ho, hc⟩)) (Below.refl _ _) (fun _ => rfl)
    (fun pre W => (∃ k9 x9 s9 a9 l9 d9 i9 j9 e9, Row5 W w.heap.size (.int .i64 k9) (.int .i64 x9) (.string s9) (.slice a9 l9 d9) (.slice i9 j9 e9) ∧ Row5 W (w.heap.size + 1) (.int .i64 0) (.int .i64 0) (.string ⟨#[]⟩) (.slice none 0 0) (.slice none 0 0) ∧
      Seen W (fun k => S k ∨ w.heap.size + 1 < k) (ups tf pre X) (five k9 x9 s9 (.slice a9 l9 d9) (.slice i9 j9 e9))) ∧ Below w.heap.size w W)
    (fun _ _ _ => False) ?own (fun _ _ _ _ _ hs _ _ => hs) ?start
    (fun i a' W => ∃ Bx, w.heap.size + 1 < Bx ∧ W.heap[Bx]? = some (.cells (tf i).cells.toArray 63 (0, 0)) ∧ a' = { tmps := #[.slice a n c, .agg #[.int .i64 k1, .int .i64 x1, .string s1, .slice an1 ln1 cn1, .slice ai1 li1 ci1], undef, .pointer (some ⟨w.heap.size, 0, none⟩), .pointer (some ⟨w.heap.size + 1, 0, none⟩), undef, .pointer (some ⟨Bx, 0, none⟩), .slice a n c, .func (.func 63) #[] #[.pointer (some ⟨w.heap.size + 1 + 1, 0, none⟩)], .int .i64 i, .agg (tf i).cells.toArray, undef, undef, undef, undef], defers := [] })
    ?ownA ?assign ?body ?done ?stop
  case own =>
    refine OwnFrom.and (Own.from (fun pre A B row hs hg hr => ?_) _) (ownFrom_below (Nat.le_refl _) (by omega))
    obtain ⟨k9, x9, s9, a9, l9, d9, i9, j9, e9, h1, h2, h3⟩ := hs
    exact ⟨k9, x9, s9, a9, l9, d9, i9, j9, e9, h1.own hg hr, h2.own hg hr, h3.agree ⟨hg.size, fun p u hp hc => cell_kept hc hg hr⟩⟩
  case start => exact ⟨⟨_, _, _, _, _, _, _, _, _, row5_of r0, row5_of r1, (hX.keep hb0).wide (fun _ h => .inl h)⟩, hb0⟩
  case ownA =>
    rintro i a' _ A B row ⟨Bx, h1, h2, h3⟩ hg hr
    refine ⟨Bx, h1, (hg.block Bx (Array.getElem?_eq_some_iff.1 h2).1 (fun e => ?_)).trans h2, h3⟩
    obtain ⟨_, o, ho, hc⟩ := hr Bx e.symm
    rw [h2] at ho; cases ho; cases hc
  case assign =>
    rintro l pre i W K hI hK
    unfold Trn.cells at *
    gi_wp2
    obtain ⟨⟨k9, x9, s9, a9, l9, d9, i9, j9, e9, h1, h2, h3⟩, hB⟩ := hI
    exact hK _ _ ((KeepsOthers.alloc _ _).from _) (fun p u _ hu => cell_alloc' hu _) ⟨⟨k9, x9, s9, a9, l9, d9, i9, j9, e9, h1.alloc _, h2.alloc _, h3.keep ((Below.refl _ W).alloc (Nat.le_refl _) _)⟩, hB.alloc hB.size _⟩ ⟨W.heap.size, h2.lt, heap_alloc_new W _, rfl⟩
  case body =>
    rintro l pre i a' W hl ⟨r, hr⟩ ⟨⟨k9, x9, s9, a9, l9, d9, i9, j9, e9, h1, h2, h3⟩, hB⟩ ⟨Bx, hBx, bX, rfl⟩ hlt
    obtain ⟨hk, hm, hb, hV⟩ := hG (by omega) i
    have hcw := with_any (tf i).k (tf i).x (tf i).tx (tf i).ns (tf i).its (tf i).an (tf i).ns.length (tf i).cn (tf i).ai (tf i).its.length (tf i).ci (tf i).sg (tf i).m hk hm hb k9 x9 s9 a9 l9 d9 i9 j9 e9 _ (fun k => S k ∨ w.heap.size + 1 < k) w0 W (h0.trans (hB.mono h0.size)) (fun k hk => .inl (hS0 k hk)) hV h3
    unfold Trn.cells at *
    obtain ⟨⟨y0, f0⟩, ⟨y1, f1⟩, ⟨y2, f2⟩, ⟨y3, f3⟩, ⟨y4, f4⟩⟩ := id h1
    have q0 : W.cell? ⟨Bx, 0, none⟩ = some (.int .i64 (tf i).k) := by simp [World.cell?, bX]
    have q1 : W.cell? ⟨Bx, 1, none⟩ = some (.int .i64 (tf i).x) := by simp [World.cell?, bX]
    have q2 : W.cell? ⟨Bx, 2, none⟩ = some (.string (tf i).tx) := by simp [World.cell?, bX]
    have q3 : W.cell? ⟨Bx, 3, none⟩ = some (.slice (tf i).an (tf i).ns.length (tf i).cn) := by simp [World.cell?, bX]
    have q4 : W.cell? ⟨Bx, 4, none⟩ = some (.slice (tf i).ai (tf i).its.length (tf i).ci) := by simp [World.cell?, bX]
    have q5 : W.cell? ⟨Bx, 5, none⟩ = some (.string (tf i).sg) := by simp [World.cell?, bX]
    have q6 : W.cell? ⟨Bx, 6, none⟩ = some (.int .i64 (tf i).m) := by simp [World.cell?, bX]
    replace h0 := hid_of h0; replace hG := hid_of hG; replace hT := hid_of hT; replace hT0 := hid_of hT0; replace hS := hid_of hS; replace hS0 := hid_of hS0; replace hX := hid_of hX; replace h3 := hid_of h3; replace hV := hid_of hV
    gi_wp2_with (refine ⟨trivial, ?_⟩; gi_at_call 48; refine (CallsIn.inRound l (callsIn_wide.2 hcw)).mono ?_; rintro e w2 ⟨hb2, cs, k9, x9, s9, a9, l9, d9, i9, j9, e9, rfl, hcs, hS2⟩; subst hcs; simp only [five]; replace hS2 := (show Hid _ from hS2); have h1b := h1.far (hb2.block _ h1.lt); obtain ⟨⟨v0, u0⟩, ⟨v1, u1⟩, ⟨v2, u2⟩, ⟨v3, u3⟩, ⟨v4, u4⟩⟩ := id h1b)
    have hlt1 := h1.lt
    have hlt2 := h2.lt
    have h2b := h2.far (hb2.block _ hlt2)
    have hpf : ∀ p : Addr, p.block ≠ w.heap.size → (put5 w2 w.heap.size (.int .i64 k9) (.int .i64 x9) (.string s9) (.slice a9 l9 d9) (.slice i9 j9 e9)).cell? p = w2.cell? p := fun p hp => World.cell?_of_block (w := w2) (put5_far _ _ _ _ _ hp)
    refine ⟨((keepsOthers_below hb2).trans (KeepsOthers.put5 _ _ _ _ _ _ _)).from _, fun p u hp hc => ?_, ⟨k9, x9, s9, a9, l9, d9, i9, j9, e9, h1b.put _ _ _ _ _, h2b.far (put5_far _ _ _ _ _ (by omega)), ?_⟩, (hB.trans (hb2.mono hB.size)).trans (put5_below (Nat.le_refl _) _ _ _ _ _)⟩
    · exact (hpf p (by rcases hp with e | e <;> omega)).trans ((hb2.cell (cell_lt hc)).trans hc)
    · have hS3 : Seen w2 (fun k => S k ∨ w.heap.size + 1 < k) (ups tf (pre ++ [i]) X) (five k9 x9 s9 (.slice a9 l9 d9) (.slice i9 j9 e9)) := by
        unfold ups
        rw [List.foldl_append]
        exact Seen.wide hS2.out (fun k h => h.elim id (fun h => .inr (by omega)))
      refine hS3.agree ⟨Nat.le_of_eq (put5_size w2 w.heap.size (.int .i64 k9) (.int .i64 x9) (.string s9) (.slice a9 l9 d9) (.slice i9 j9 e9)).symm, fun p u hp hc => (hpf p (fun e => ?_)).trans hc⟩
      rcases hp with h | h
      · have := hS.out _ h; omega
      · omega
  case done =>
    rintro D ys W hD rfl ⟨⟨k9, x9, s9, a9, l9, d9, i9, j9, e9, h1, h2, h3⟩, hB⟩ hK
    obtain ⟨⟨y0, f0⟩, ⟨y1, f1⟩, ⟨y2, f2⟩, ⟨y3, f3⟩, ⟨y4, f4⟩⟩ := h1
    obtain ⟨⟨z0, n0⟩, ⟨z1, n1⟩, ⟨z2, n2⟩, ⟨z3, n3⟩, ⟨z4, n4⟩⟩ := id h2
    replace h3 := hid_of h3; replace h0 := hid_of h0; replace hG := hid_of hG; replace hT := hid_of hT; replace hT0 := hid_of hT0; replace hS := hid_of hS; replace hS0 := hid_of hS0; replace hX := hid_of hX
    gi_wp2
    obtain ⟨Wp, hWp⟩ : ∃ Wp, put5 W (w.heap.size + 1) (.int .i64 k9) (.int .i64 x9) (.string s9) (.slice a9 l9 d9) (.slice i9 j9 e9) = Wp := ⟨_, rfl⟩
    have hWc := hWp
    unfold put5 at hWc
    rw [hWc]
    clear hWc
    have hK' : Wp.heap[D]? = some (.deferred (some [])) := by rw [← hWp]; exact (KeepsOthers.put5 _ _ _ _ _ _ _).same D _ hK rfl
    have hBp : Below w.heap.size w Wp := by rw [← hWp]; exact hB.trans (put5_below (by omega) _ _ _ _ _)
    have hr2 : Row5 Wp (w.heap.size + 1) (.int .i64 k9) (.int .i64 x9) (.string s9) (.slice a9 l9 d9) (.slice i9 j9 e9) := by rw [← hWp]; exact h2.put _ _ _ _ _
    have hSp : Hid (Seen Wp (fun k => S k ∨ w.heap.size + 1 < k) (ups tf (backs n n) X) (five k9 x9 s9 (.slice a9 l9 d9) (.slice i9 j9 e9))) := by
      rw [← hWp]
      refine hid_of (Seen.agree h3.out ⟨by rw [put5_size]; exact Nat.le_refl _, fun p u hp hc => (World.cell?_of_block (w := W) (put5_far _ _ _ _ _ (fun e => ?_))).trans hc⟩)
      rcases hp with h | h
      · have := hS.out _ h; omega
      · omega
    clear hWp h2 z0 z1 z2 z3 z4 n0 n1 n2 n3 n4 y0 y1 y2 y3 y4 f0 f1 f2 f3 f4 h3 hB hK
    have hkp : ∀ r, some D = some r → ∃ o, Wp.heap[r]? = some o ∧ o.isCells = false := fun r e => by cases e; exact ⟨_, hK', rfl⟩
    refine ⟨by simp, .inl ⟨_, _, rfl, run_takeDeferred hK', ?_⟩⟩
    replace hr2 := hr2.own (grownBy_putObj' _ D (.deferred none)) hkp
    have hV : Seen (Wp.putObj D (.deferred none)) (fun k => S k ∨ w.heap.size + 1 < k) (ups tf (backs n n) X) (five k9 x9 s9 (.slice a9 l9 d9) (.slice i9 j9 e9)) := Seen.agree hSp.out ⟨(grownBy_putObj' Wp D (.deferred none)).size, fun p u hp hc => cell_kept hc (grownBy_putObj' _ D (.deferred none)) hkp⟩
    have hBf := hBp.trans (belowK_b (w := w) (Nat.le_refl _) _ D _ (.deferred none) (by omega) hK' rfl rfl)
    clear hK' hkp hBp hSp
    generalize Wp.putObj D (.deferred none) = Wf at *
    obtain ⟨⟨r0, -⟩, ⟨r1, -⟩, ⟨r2, -⟩, ⟨r3, -⟩, ⟨r4, -⟩⟩ := hr2
    exact ⟨.agg #[.int .i64 k9, .int .i64 x9, .string s9, .slice a9 l9 d9, .slice i9 j9 e9], by simp [results, Try.results29, go_sem, r0, r1, r2, r3, r4], hBf, five k9 x9 s9 (.slice a9 l9 d9) (.slice i9 j9 e9), rfl, hV⟩
  case stop =>
    rintro D c pre W _ _ h _
    exact h.elim
end Go.Proofs.Ytmlbofbnklmedaa
/-! within, of any length. -/
namespace Go.Proofs.Ytmlbofbnklmedaa
open Go Go.RowKit Go.Shelf
attribute [local go_sem] Oper.semAt_some

set_option maxRecDepth 100000 in
set_option maxHeartbeats 1000000 in
theorem back_s_n (F : Fence) (r : Nat) (hf : F.fn 64) (hro : F.round = none) (hr : 1 ≤ r) (Bs n c : Nat) (a : Option Addr) (sf : Nat → ByteArray) (U : Nat → Prop) (w : World) (hBs : Bs < w.heap.size) (hUB : U Bs) (hn : n ≤ 9223372036854775807)
    (hc : w.cell? ⟨Bs, 0, none⟩ = some (.slice a n c)) (hs : ∀ i, i < n → ∃ g o, a = some ⟨g, o, none⟩ ∧ U g ∧ w.cell? ⟨g, o + i, none⟩ = some (.string (sf i))) :
    SeqStopsK F r Try.prog 64 #[.pointer (some ⟨Bs, 0, none⟩)] (fun i : Nat => #[Value.int .i64 i, Value.string (sf i)]) (KpU U) (fun ys => ys = backs n n) (fun _ => True) n w := fun l J Jx W hW _ _ hY h0 => by
  have hc' := (hW.cell (p := ⟨Bs, 0, none⟩) hBs).trans hc
  refine callsIn_of_wp Try.func64 rfl hf ?_ hro
  simp only [Try.ntmps64, List.size_toArray, List.length_cons, List.length_nil, Nat.reduceAdd, Nat.reduceSub, Array.replicate_succ, Array.replicate_zero, List.push_toArray, List.append_toArray, List.nil_append, List.cons_append]
  gi_wp2
  replace hs := hid_of hs; replace hW := hid_of hW; replace hY := hid_of hY
  gi_loopw [3] (fun i wr => ∃ q : Nat, q ≤ n ∧ i = .int .i64 ((n : Int) - 1 - q) ∧ Hid (J (backs n q) wr) ∧ Hid (KpU U W wr)) (fun i _ => (intOf i + 1).toNat)
  case atStart => exact ⟨0, Nat.zero_le _, by simp, hid_of h0, hid_of (fun _ _ _ h => h)⟩
  case round =>
    obtain ⟨q, hq, rfl, hJ, hK⟩ := hrel
    by_cases hlt : q < n
    · obtain ⟨j, hj⟩ : ∃ j : Nat, (n : Int) - 1 - q = (j : Int) := ⟨n - 1 - q, by omega⟩
      have hjq : n - 1 - q = j := by omega
      have hjn : j < n := by omega
      obtain ⟨g, o, rfl, hUg, hcl⟩ := hs.out j hjn
      have cB : wr.cell? ⟨Bs, 0, none⟩ = some (.slice (some ⟨g, o, none⟩) n c) := hK.out _ _ hUB hc'
      have c0 : wr.cell? ⟨g, o + j, none⟩ = some (.string (sf j)) := hK.out _ _ hUg ((hW.out.cell (cell_lt hcl)).trans hcl)
      clear hcl
      have i1 : (j : Int) < (n : Int) := by omega
      have i2 : (0 : Int) ≤ (j : Int) := by omega
      have hd : decide ((0 : Int) ≤ (j : Int)) = true := by simp
      obtain ⟨fn, tmps, assign, body, hy, hR⟩ := hY.out (backs n q) j wr hJ.out (by rw [backs_len]; exact hlt)
      rw [hj]
      gi_wp2
      refine hR.mono ?_
      rintro e W3 (⟨rfl, hJ3, hk3⟩ | ⟨rfl, hJx3⟩)
      · have hJ' : Hid (J (backs n (q + 1)) W3) := hid_of (by rw [backs_succ, hjq]; exact hJ3)
        have hK' : Hid (KpU U W W3) := hid_of (hK.out.trans hk3)
        gi_wp2
        go_roundw
        case rel => exact ⟨q + 1, by omega, by congr 1; omega, hJ', hK'⟩
        case measure => first | (simp [intOf]; done) | (simp [intOf]; omega)
      · gi_wp2
        refine bodyPost_ret (results_none rfl _ _ _) rfl ?_
        exact ⟨⟨_, rfl⟩, .inr ⟨_, trivial, hJx3⟩⟩
    · obtain rfl : q = n := by omega
      have hd : decide ((0 : Int) ≤ ((q : Int) - 1 - q)) = false := by simp; omega
      gi_wp2
      go_end0
      exact ⟨⟨_, rfl⟩, .inl ⟨_, rfl, hJ.out⟩⟩
/-- X in new objects of one member each. -/
def nests (sf : Nat → ByteArray) (l : List Nat) (X : Tr) : Tr := l.foldl (fun X i => .node 6 0 ⟨#[]⟩ [sf i] [X]) X
set_option maxRecDepth 100000 in
set_option maxHeartbeats 2000000 in
theorem within_any (w : World) (n c : Nat) (hn : n ≤ 9223372036854775807) (a : Option Addr) (sf : Nat → ByteArray) (hT : ∀ i, i < n → ∃ g o, a = some ⟨g, o, none⟩ ∧ w.cell? ⟨g, o + i, none⟩ = some (.string (sf i)))
    (k1 x1 : Int) (s1 : ByteArray) (an1 : Option Addr) (ln1 cn1 : Nat) (ai1 : Option Addr) (li1 ci1 : Nat) (X : Tr) (S : Nat → Prop) (hS : ∀ k, S k → k < w.heap.size) (hX : Seen w S X (five k1 x1 s1 (.slice an1 ln1 cn1) (.slice ai1 li1 ci1))) :
    Calls Try.prog 30 #[.slice a n c, .agg #[.int .i64 k1, .int .i64 x1, .string s1, .slice an1 ln1 cn1, .slice ai1 li1 ci1]] w fun e w' => Below w.heap.size w w' ∧ ∃ cs, e = .returned (.agg cs.toArray) ∧ Seen w' (fun k => S k ∨ w.heap.size + 1 < k) (nests sf (backs n n) X) cs := by
  refine (callsIn_wide (n := 5)).1 ?_
  have hro : Fence.wide.round = none := rfl
  refine callsIn_of_wp_marks Try.func30 rfl trivial ?_ hro
  simp only [Try.ntmps30, List.size_toArray, List.length_cons, List.length_nil, Nat.reduceAdd, Nat.reduceSub, Array.replicate_succ, Array.replicate_zero, List.push_toArray, List.append_toArray, List.nil_append, List.cons_append]
  gi_wp2_with (refine ⟨trivial, ?_⟩; gi_at_call 49; refine (back_s_in Fence.wide _ trivial hro _ _ _ _).mono ?_; rintro e w' ⟨rfl, rfl⟩)
  have hB0 : ∀ o1 o2 o3, Below w.heap.size w (((w.alloc o1).alloc o2).alloc o3) := fun o1 o2 o3 => (((Below.refl _ w).alloc (Nat.le_refl _) o1).alloc (by simp) o2).alloc (by simp; omega) o3
  have hn1 : ∀ o1 o2 o3, (((w.alloc o1).alloc o2).alloc o3).heap[w.heap.size]? = some o1 := fun o1 o2 o3 => by
    rw [Below.heap_alloc _ _ _ (by simp; omega)]; exact new1 w o1 o2
  have hn2 : ∀ o1 o2 o3, (((w.alloc o1).alloc o2).alloc o3).heap[w.heap.size + 1]? = some o2 := fun o1 o2 o3 => by
    rw [Below.heap_alloc _ _ _ (by simp)]; exact new2 w o1 o2
  have hn3 : ∀ o1 o2 o3, (((w.alloc o1).alloc o2).alloc o3).heap[w.heap.size + 1 + 1]? = some o3 := fun o1 o2 o3 => by
    have := heap_alloc_new ((w.alloc o1).alloc o2) o3
    rw [World.size_alloc, World.size_alloc] at this
    exact this
  obtain ⟨W0, hW0⟩ : ∃ W0, (((w.alloc (.cells #[.int .i64 k1, .int .i64 x1, .string s1, .slice an1 ln1 cn1, .slice ai1 li1 ci1] 25)).alloc (.cells #[.int .i64 0, .int .i64 0, .string ⟨#[]⟩, .slice none 0 0, .slice none 0 0] 25)).alloc (.cells #[.slice a n c] 22)) = W0 := ⟨_, rfl⟩
  have r0 := hn1 (.cells #[.int .i64 k1, .int .i64 x1, .string s1, .slice an1 ln1 cn1, .slice ai1 li1 ci1] 25) (.cells #[.int .i64 0, .int .i64 0, .string ⟨#[]⟩, .slice none 0 0, .slice none 0 0] 25) (.cells #[.slice a n c] 22)
  have r1 := hn2 (.cells #[.int .i64 k1, .int .i64 x1, .string s1, .slice an1 ln1 cn1, .slice ai1 li1 ci1] 25) (.cells #[.int .i64 0, .int .i64 0, .string ⟨#[]⟩, .slice none 0 0, .slice none 0 0] 25) (.cells #[.slice a n c] 22)
  have r2 := hn3 (.cells #[.int .i64 k1, .int .i64 x1, .string s1, .slice an1 ln1 cn1, .slice ai1 li1 ci1] 25) (.cells #[.int .i64 0, .int .i64 0, .string ⟨#[]⟩, .slice none 0 0, .slice none 0 0] 25) (.cells #[.slice a n c] 22)
  have hb0 := hB0 (.cells #[.int .i64 k1, .int .i64 x1, .string s1, .slice an1 ln1 cn1, .slice ai1 li1 ci1] 25) (.cells #[.int .i64 0, .int .i64 0, .string ⟨#[]⟩, .slice none 0 0, .slice none 0 0] 25) (.cells #[.slice a n c] 22)
  have hsz : W0.heap.size = w.heap.size + 3 := by rw [← hW0]; simp
  clear hB0 hn1 hn2 hn3
  rw [hW0] at r0 r1 r2 hb0
  rw [hW0]
  clear hW0
  have sB : W0.cell? ⟨w.heap.size + 1 + 1, 0, none⟩ = some (.slice a n c) := by simp [World.cell?, r2]
  have hT0 : ∀ i, i < n → ∃ g o, a = some ⟨g, o, none⟩ ∧ (g = w.heap.size + 1 + 1 ∨ g < w.heap.size) ∧ W0.cell? ⟨g, o + i, none⟩ = some (.string (sf i)) := fun i hi => by
    obtain ⟨g, o, e, hc⟩ := hT i hi
    have hlt : g < w.heap.size := cell_lt hc
    exact ⟨g, o, e, .inr hlt, (hb0.cell (p := ⟨g, o + i, none⟩) hlt).trans hc⟩
  refine wpIn_rangeFunc_ownG hro (by decide) (gf := 64) (lb := #[.pointer (some ⟨w.heap.size + 1 + 1, 0, none⟩)]) rfl trivial (enters_of Try.func64 (by kernel_rfl) rfl)
    (back_s_n Fence.wide _ trivial hro (by decide) (w.heap.size + 1 + 1) n c a sf (fun j => j = w.heap.size + 1 + 1 ∨ j < w.heap.size) W0 (by omega) (.inl rfl) hn sB hT0) KpU.trans (fun W l o o' hl ho hc _ p u _ hu => cell_kept hu (grownBy_putObj' W l o') (fun r e => by cases e; exact ⟨o, ho, hc⟩)) (Below.refl _ _) (fun _ => rfl)
    (fun pre W => (∃ k9 x9 s9 a9 l9 d9 i9 j9 e9, Row5 W w.heap.size (.int .i64 k9) (.int .i64 x9) (.string s9) (.slice a9 l9 d9) (.slice i9 j9 e9) ∧ Row5 W (w.heap.size + 1) (.int .i64 0) (.int .i64 0) (.string ⟨#[]⟩) (.slice none 0 0) (.slice none 0 0) ∧
      Seen W (fun k => S k ∨ w.heap.size + 1 < k) (nests sf pre X) (five k9 x9 s9 (.slice a9 l9 d9) (.slice i9 j9 e9))) ∧ Below w.heap.size w W)
    (fun _ _ _ => False) ?own (fun _ _ _ _ _ hs _ _ => hs) ?start
    (fun i => { tmps := #[.slice a n c, .agg #[.int .i64 k1, .int .i64 x1, .string s1, .slice an1 ln1 cn1, .slice ai1 li1 ci1], undef, .pointer (some ⟨w.heap.size, 0, none⟩), .pointer (some ⟨w.heap.size + 1, 0, none⟩), undef, .string (sf i), .slice a n c, .func (.func 64) #[] #[.pointer (some ⟨w.heap.size + 1 + 1, 0, none⟩)], .int .i64 i, .string (sf i), undef, undef, undef, undef, undef, undef], defers := [] }) ?assign ?body ?done ?stop
  case own =>
    refine OwnFrom.and (Own.from (fun pre A B row hs hg hr => ?_) _) (ownFrom_below (Nat.le_refl _) (by omega))
    obtain ⟨k9, x9, s9, a9, l9, d9, i9, j9, e9, h1, h2, h3⟩ := hs
    exact ⟨k9, x9, s9, a9, l9, d9, i9, j9, e9, h1.own hg hr, h2.own hg hr, h3.agree ⟨hg.size, fun p u hp hc => cell_kept hc hg hr⟩⟩
  case start => exact ⟨⟨_, _, _, _, _, _, _, _, _, row5_of r0, row5_of r1, (hX.keep hb0).wide (fun _ h => .inl h)⟩, hb0⟩
  case assign =>
    intro l x W K hK
    gi_wp2
    exact hK
  case body =>
    rintro l pre i W ⟨⟨k9, x9, s9, a9, l9, d9, i9, j9, e9, h1, h2, h3⟩, hB⟩ hlt
    have y0 := fun o => (h1.alloc o).1.1; have y1 := fun o => (h1.alloc o).2.1.1; have y2 := fun o => (h1.alloc o).2.2.1.1; have y3 := fun o => (h1.alloc o).2.2.2.1.1; have y4 := fun o => (h1.alloc o).2.2.2.2.1
    have z0 := fun o o' => ((h1.alloc o).alloc o').1.1; have z1 := fun o o' => ((h1.alloc o).alloc o').2.1.1; have z2 := fun o o' => ((h1.alloc o).alloc o').2.2.1.1; have z3 := fun o o' => ((h1.alloc o).alloc o').2.2.2.1.1; have z4 := fun o o' => ((h1.alloc o).alloc o').2.2.2.2.1
    have f0 := fun o o' => ((h1.alloc o).alloc o').1.2; have f1 := fun o o' => ((h1.alloc o).alloc o').2.1.2; have f2 := fun o o' => ((h1.alloc o).alloc o').2.2.1.2; have f3 := fun o o' => ((h1.alloc o).alloc o').2.2.2.1.2; have f4 := fun o o' => ((h1.alloc o).alloc o').2.2.2.2.2
    replace hT := hid_of hT; replace hT0 := hid_of hT0; replace hS := hid_of hS; replace hX := hid_of hX; replace h3 := hid_of h3
    gi_wp2
    clear y0 y1 y2 y3 y4 z0 z1 z2 z3 z4 f0 f1 f2 f3 f4
    have hlt1 := h1.lt
    have hlt2 := h2.lt
    have hBa : Below W.heap.size W ((W.alloc (.cells #[.string (sf i)] 9)).alloc (.cells #[.int .i64 k9, .int .i64 x9, .string s9, .slice a9 l9 d9, .slice i9 j9 e9] 25)) := ((Below.refl _ W).alloc (Nat.le_refl _) _).alloc (by simp) _
    obtain ⟨Wp, hWp⟩ : ∃ Wp, put5 ((W.alloc (.cells #[.string (sf i)] 9)).alloc (.cells #[.int .i64 k9, .int .i64 x9, .string s9, .slice a9 l9 d9, .slice i9 j9 e9] 25)) w.heap.size (.int .i64 6) (.int .i64 0) (.string ⟨#[]⟩) (.slice (some ⟨W.heap.size, 0, none⟩) 1 1) (.slice (some ⟨W.heap.size + 1, 0, none⟩) 1 1) = Wp := ⟨_, rfl⟩
    have hpf : ∀ j, j ≠ w.heap.size → Wp.heap[j]? = ((W.alloc (.cells #[.string (sf i)] 9)).alloc (.cells #[.int .i64 k9, .int .i64 x9, .string s9, .slice a9 l9 d9, .slice i9 j9 e9] 25)).heap[j]? := fun j hj => by rw [← hWp]; exact put5_far _ _ _ _ _ hj
    have hps : Wp.heap.size = W.heap.size + 2 := by rw [← hWp, put5_size]; simp
    have hcell : ∀ p u, p.block ≠ w.heap.size → W.cell? p = some u → Wp.cell? p = some u := fun p u hp hc => (World.cell?_of_block (w := ((W.alloc (.cells #[.string (sf i)] 9)).alloc (.cells #[.int .i64 k9, .int .i64 x9, .string s9, .slice a9 l9 d9, .slice i9 j9 e9] 25))) (hpf _ hp)).trans ((hBa.cell (cell_lt hc)).trans hc)
    have n1 : Wp.heap[W.heap.size]? = some (.cells #[.string (sf i)] 9) := (hpf _ (by omega)).trans (new1 W _ _)
    have n2 : Wp.heap[W.heap.size + 1]? = some (.cells #[.int .i64 k9, .int .i64 x9, .string s9, .slice a9 l9 d9, .slice i9 j9 e9] 25) := (hpf _ (by omega)).trans (new2 W _ _)
    have hko : KeepsOthers W Wp := by rw [← hWp]; exact (KeepsOthers.alloc _ _).trans ((KeepsOthers.alloc _ _).trans (KeepsOthers.put5 _ _ _ _ _ _ _))
    have hr1 : Row5 Wp w.heap.size (.int .i64 6) (.int .i64 0) (.string ⟨#[]⟩) (.slice (some ⟨W.heap.size, 0, none⟩) 1 1) (.slice (some ⟨W.heap.size + 1, 0, none⟩) 1 1) := by rw [← hWp]; exact ((h1.alloc _).alloc _).put _ _ _ _ _
    have hr2 := ((h2.alloc (.cells #[.string (sf i)] 9)).alloc (.cells #[.int .i64 k9, .int .i64 x9, .string s9, .slice a9 l9 d9, .slice i9 j9 e9] 25)).far (hpf (w.heap.size + 1) (by omega))
    have hBp : Below w.heap.size w Wp := by rw [← hWp]; exact ((hB.alloc (by omega) _).alloc (by simp; omega) _).trans (put5_below (Nat.le_refl _) _ _ _ _ _)
    have hse : Seen Wp (fun k => S k ∨ w.heap.size + 1 < k) (nests sf (pre ++ [i]) X) (five 6 0 ⟨#[]⟩ (.slice (some ⟨W.heap.size, 0, none⟩) 1 1) (.slice (some ⟨W.heap.size + 1, 0, none⟩) 1 1)) := by
      unfold nests
      rw [List.foldl_append]
      refine fun W' ha => one_object (ha.2 _ _ (.inr (show w.heap.size + 1 < W.heap.size by omega)) (by simp [World.cell?, n1])) (by have := ha.1; omega) (fun j u hj => ha.2 ⟨W.heap.size + 1, 0 + j, none⟩ u (.inr (show w.heap.size + 1 < W.heap.size + 1 by omega)) ((row5_of n2).cells j u hj)) (Seen.agree h3.out ⟨by omega, fun p u hp hc => hcell p u (fun e => ?_) hc⟩ W' ha)
      rcases hp with h | h
      · have := hS.out _ h; omega
      · omega
    unfold put5 at hWp
    rw [hWp]
    exact ⟨hko.from _, fun p u hp hc => hcell p u (by rcases hp with e | e <;> omega) hc, ⟨6, 0, ⟨#[]⟩, _, _, _, _, _, _, hr1, hr2, hse⟩, hBp⟩
  case done =>
    rintro D ys W hD rfl ⟨⟨k9, x9, s9, a9, l9, d9, i9, j9, e9, h1, h2, h3⟩, hB⟩ hK
    obtain ⟨⟨y0, f0⟩, ⟨y1, f1⟩, ⟨y2, f2⟩, ⟨y3, f3⟩, ⟨y4, f4⟩⟩ := h1
    obtain ⟨⟨z0, n0⟩, ⟨z1, n1⟩, ⟨z2, n2⟩, ⟨z3, n3⟩, ⟨z4, n4⟩⟩ := id h2
    replace h3 := hid_of h3; replace hT := hid_of hT; replace hT0 := hid_of hT0; replace hS := hid_of hS; replace hX := hid_of hX
    gi_wp2
    obtain ⟨Wp, hWp⟩ : ∃ Wp, put5 W (w.heap.size + 1) (.int .i64 k9) (.int .i64 x9) (.string s9) (.slice a9 l9 d9) (.slice i9 j9 e9) = Wp := ⟨_, rfl⟩
    have hWc := hWp
    unfold put5 at hWc
    rw [hWc]
    clear hWc
    have hK' : Wp.heap[D]? = some (.deferred (some [])) := by rw [← hWp]; exact (KeepsOthers.put5 _ _ _ _ _ _ _).same D _ hK rfl
    have hBp : Below w.heap.size w Wp := by rw [← hWp]; exact hB.trans (put5_below (by omega) _ _ _ _ _)
    have hr2 : Row5 Wp (w.heap.size + 1) (.int .i64 k9) (.int .i64 x9) (.string s9) (.slice a9 l9 d9) (.slice i9 j9 e9) := by rw [← hWp]; exact h2.put _ _ _ _ _
    have hSp : Hid (Seen Wp (fun k => S k ∨ w.heap.size + 1 < k) (nests sf (backs n n) X) (five k9 x9 s9 (.slice a9 l9 d9) (.slice i9 j9 e9))) := by
      rw [← hWp]
      refine hid_of (Seen.agree h3.out ⟨by rw [put5_size]; exact Nat.le_refl _, fun p u hp hc => (World.cell?_of_block (w := W) (put5_far _ _ _ _ _ (fun e => ?_))).trans hc⟩)
      rcases hp with h | h
      · have := hS.out _ h; omega
      · omega
    clear hWp h2 z0 z1 z2 z3 z4 n0 n1 n2 n3 n4 y0 y1 y2 y3 y4 f0 f1 f2 f3 f4 h3 hB hK
    have hkp : ∀ r, some D = some r → ∃ o, Wp.heap[r]? = some o ∧ o.isCells = false := fun r e => by cases e; exact ⟨_, hK', rfl⟩
    refine ⟨by simp, .inl ⟨_, _, rfl, run_takeDeferred hK', ?_⟩⟩
    replace hr2 := hr2.own (grownBy_putObj' _ D (.deferred none)) hkp
    have hV : Seen (Wp.putObj D (.deferred none)) (fun k => S k ∨ w.heap.size + 1 < k) (nests sf (backs n n) X) (five k9 x9 s9 (.slice a9 l9 d9) (.slice i9 j9 e9)) := Seen.agree hSp.out ⟨(grownBy_putObj' Wp D (.deferred none)).size, fun p u hp hc => cell_kept hc (grownBy_putObj' _ D (.deferred none)) hkp⟩
    have hBf := hBp.trans (belowK_b (w := w) (Nat.le_refl _) _ D _ (.deferred none) (by omega) hK' rfl rfl)
    clear hK' hkp hBp hSp
    generalize Wp.putObj D (.deferred none) = Wf at *
    obtain ⟨⟨r0, -⟩, ⟨r1, -⟩, ⟨r2, -⟩, ⟨r3, -⟩, ⟨r4, -⟩⟩ := hr2
    exact ⟨.agg #[.int .i64 k9, .int .i64 x9, .string s9, .slice a9 l9 d9, .slice i9 j9 e9], by simp [results, Try.results30, go_sem, r0, r1, r2, r3, r4], hBf, five k9 x9 s9 (.slice a9 l9 d9) (.slice i9 j9 e9), rfl, hV⟩
  case stop =>
    rintro D c pre W _ _ h _
    exact h.elim
end Go.Proofs.Ytmlbofbnklmedaa
