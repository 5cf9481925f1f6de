import Derived.Test.YthgnkhpomhcdkaaGreatDoorGS5
import Derived.LoopIn
import Derived.Deep.RegionWith
import Derived.Deep.DeepFit
/-! Taken over from r4b/S6. -/
namespace Go.Proofs.YthgnkhpomhcdkaaGreatDoor
open Go Go.RowKit Dp

theorem anew_all (k x : Int) (tx : ByteArray) (ns : List ByteArray) (its : List Tr) (cs : List Value) (hk : k = 5 ∨ k = 6) (hb : (its.length + 1) * 80 ≤ 281474976710656) (w0 : World) (hV : VRep w0 (.node k x tx ns its) cs) :
    ∃ xs, ItemsRep w0 (keepIts k ns its) xs ∧ ∀ w, Sub w0 w → Calls Tryz.prog 172 #[.agg cs.toArray] w (Anew w k (keepIts k ns its).length (strs (keepNs k ns its)) xs) := by
  obtain ⟨an, cn, ai, ci, xs, rfl, hcn, hci, hN, hI, hR⟩ := hV.parts
  rcases hk with rfl | rfl
  · exact ⟨xs, hR, fun w h0 => anew5 x tx an ns.length cn ai its.length ci _ xs hR.length hb hR.ones w (hI.sub h0)⟩
  · have hl : (its.take (min ns.length its.length)).length = min ns.length its.length := by rw [List.length_take]; omega
    refine ⟨xs.take (min ns.length its.length * 5), hR.take _, fun w h0 => ?_⟩
    have := anew6 x tx an ns.length cn ai its.length ci (min ns.length its.length) (strs (ns.take (min ns.length its.length))) (xs.take (min ns.length its.length * 5)) rfl hcn.1 hci.1 (by rw [strs_length, List.length_take]; omega) (by rw [List.length_take, hR.length]; omega) (by omega) (strs1 _) (fun v hv => hR.ones v (List.mem_of_mem_take hv)) w (by rw [← strs_take]; exact (hN.sub h0).take _) ((hI.sub h0).take _)
    unfold keepIts keepNs
    rw [if_pos rfl, if_pos rfl, hl]
    exact this
theorem keep_le (k : Int) (ns : List ByteArray) (its : List Tr) : (keepIts k ns its).length ≤ its.length := by
  unfold keepIts
  split
  · rw [List.length_take]; omega
  · exact Nat.le_refl _
theorem keep6 (ns : List ByteArray) (its : List Tr) : (keepNs 6 ns its).length = (keepIts 6 ns its).length := by
  unfold keepIts keepNs
  rw [if_pos rfl, if_pos rfl, List.length_take, List.length_take]; omega
theorem keep5 (ns : List ByteArray) (its : List Tr) : keepNs 5 ns its = [] := by
  unfold keepNs
  rw [if_neg (by decide)]
theorem with_any (k x : Int) (tx : ByteArray) (ns : List ByteArray) (its : List Tr) (an : Option Addr) (ln cn : Nat) (ai : Option Addr) (li ci : Nat) (sg : ByteArray) (m : Nat) (hk : k = 5 ∨ k = 6) (hm : m ≤ (keepIts k ns its).length) (hb : (its.length + 1) * 80 ≤ 140737488355328) (k1 x1 : Int) (s1 : ByteArray) (an1 : Option Addr) (ln1 cn1 : Nat) (ai1 : Option Addr) (li1 ci1 : Nat) (X : Tr) (S : Nat → Prop) (w0 w : World) (h0 : Sub w0 w) (hS : ∀ p u, w0.cell? p = some u → S p.block)
    (hV : VRep w0 (.node k x tx ns its) (five k x tx (.slice an ln cn) (.slice ai li ci))) (hX : Seen w S X (five k1 x1 s1 (.slice an1 ln1 cn1) (.slice ai1 li1 ci1))) :
    Calls Tryz.prog 171 #[.agg #[.int .i64 k, .int .i64 x, .string tx, .slice an ln cn, .slice ai li ci, .string sg, .int .i64 m], .agg #[.int .i64 k1, .int .i64 x1, .string s1, .slice an1 ln1 cn1, .slice ai1 li1 ci1]] w (WithPost w S (withT k ns its sg m X)) := by
  obtain ⟨xs, hR, hA⟩ := anew_all k x tx ns its _ hk (by omega) w0 hV
  have hA' : ∀ W, Below w.heap.size w W → Calls Tryz.prog 172 #[.agg #[.int .i64 k, .int .i64 x, .string tx, .slice an ln cn, .slice ai li ci]] W (Anew W k (keepIts k ns its).length (strs (keepNs k ns its)) xs) := fun W hW => hA W (h0.below hW)
  have hle := keep_le k ns its
  unfold withT
  split
  · exact with_set k x tx an ln cn ai li ci sg m _ (by assumption) k1 x1 s1 an1 ln1 cn1 ai1 li1 ci1 _ _ rfl xs X S w0 w h0 hS hR hX hA' (fun e => by subst e; exact keep5 ns its) (fun e => by subst e; exact keep6 ns its)
  · obtain rfl : m = (keepIts k ns its).length := by omega
    rcases hk with rfl | rfl
    · rw [if_neg (by decide)]
      exact with_app5 x tx an ln cn ai li ci sg _ (by omega) k1 x1 s1 an1 ln1 cn1 ai1 li1 ci1 (keepNs 5 ns its) _ rfl xs X S w0 w h0 hS hR hX hA'
    · rw [if_pos rfl]
      exact with_app6 x tx an ln cn ai li ci sg _ (by omega) k1 x1 s1 an1 ln1 cn1 ai1 li1 ci1 _ _ rfl xs X S w0 w h0 hS hR hX hA' (keep6 ns its)
end Go.Proofs.YthgnkhpomhcdkaaGreatDoor
/-! Taken over from r4b/S7. -/
namespace Go.Proofs.YthgnkhpomhcdkaaGreatDoor
open Go Go.RowKit Dp
attribute [local go_sem] Oper.semAt_some

/-- A turn. -/
structure Trn where
  k : Int
  x : Int
  tx : ByteArray
  ns : List ByteArray
  its : List Tr
  an : Option Addr
  cn : Nat
  ai : Option Addr
  ci : Nat
  sg : ByteArray
  m : Nat
def Trn.cells (t : Trn) : List Value := [.int .i64 t.k, .int .i64 t.x, .string t.tx, .slice t.an t.ns.length t.cn, .slice t.ai t.its.length t.ci, .string t.sg, .int .i64 t.m]
/-- The order in which Backward goes. -/
def backs (n q : Nat) : List Nat := (List.range q).map (n - 1 - ·)
theorem backs_succ (n q : Nat) : backs n (q + 1) = backs n q ++ [n - 1 - q] := by simp [backs, List.range_succ]
theorem backs_len (n q : Nat) : (backs n q).length = q := by simp [backs]

/-- What A has in the blocks of U, in cells, B has too. -/
def KpU (U : Nat → Prop) (A B : World) : Prop := ∀ p u, U p.block → A.cell? p = some u → B.cell? p = some u
theorem KpU.trans {U : Nat → Prop} {A B C : World} (h : KpU U A B) (h' : KpU U B C) : KpU U A C := fun p u hp hc => h' p u hp (h p u hp hc)
set_option maxRecDepth 100000 in
set_option maxHeartbeats 1000000 in
theorem back_t_n (F : Fence) (r : Nat) (hf : F.fn 205) (hro : F.round = none) (hr : 1 ≤ r) (Bs n c : Nat) (a : Option Addr) (tf : Nat → Trn) (U : Nat → Prop) (w : World) (hBs : Bs < w.heap.size) (hUB : U Bs) (hn : n ≤ 9223372036854775807)
    (hc : w.cell? ⟨Bs, 0, none⟩ = some (.slice a n c)) (hs : ∀ i, i < n → ∃ g o, a = some ⟨g, o, none⟩ ∧ U g ∧ CellsAt w g (o + i * 7) (tf i).cells) :
    SeqStopsK F r Tryz.prog 205 #[.pointer (some ⟨Bs, 0, none⟩)] (fun i : Nat => #[Value.int .i64 i, Value.agg (tf i).cells.toArray]) (KpU U) (fun ys => ys = backs n n) (fun _ => True) n w := fun l J Jx W hW _ _ hY h0 => by
  have hc' := (hW.cell (p := ⟨Bs, 0, none⟩) hBs).trans hc
  refine callsIn_of_wp Tryz.func205 rfl hf ?_ hro
  simp only [Tryz.ntmps205, List.size_toArray, List.length_cons, List.length_nil, Nat.reduceAdd, Nat.reduceSub, Array.replicate_succ, Array.replicate_zero, List.push_toArray, List.append_toArray, List.nil_append, List.cons_append]
  gi_wp2
  replace hs := hid_of hs; replace hW := hid_of hW; replace hY := hid_of hY
  gi_loopw [3] (fun i wr => ∃ q : Nat, q ≤ n ∧ i = .int .i64 ((n : Int) - 1 - q) ∧ Hid (J (backs n q) wr) ∧ Hid (KpU U W wr)) (fun i _ => (intOf i + 1).toNat)
  case atStart => exact ⟨0, Nat.zero_le _, by simp, hid_of h0, hid_of (fun _ _ _ h => h)⟩
  case round =>
    obtain ⟨q, hq, rfl, hJ, hK⟩ := hrel
    by_cases hlt : q < n
    · obtain ⟨j, hj⟩ : ∃ j : Nat, (n : Int) - 1 - q = (j : Int) := ⟨n - 1 - q, by omega⟩
      have hjq : n - 1 - q = j := by omega
      have hjn : j < n := by omega
      obtain ⟨g, o, rfl, hUg, hcl⟩ := hs.out j hjn
      have cB : wr.cell? ⟨Bs, 0, none⟩ = some (.slice (some ⟨g, o, none⟩) n c) := hK.out _ _ hUB hc'
      have cT : ∀ e u, (tf j).cells[e]? = some u → wr.cell? ⟨g, o + j * 7 + e, none⟩ = some u := fun e u he => hK.out _ _ hUg ((hW.out.cell (cell_lt (hcl e u he))).trans (hcl e u he))
      have c0 : wr.cell? ⟨g, o + j * 7, none⟩ = some (.int .i64 (tf j).k) := cT 0 _ rfl
      have c1 : wr.cell? ⟨g, o + j * 7 + 1, none⟩ = some (.int .i64 (tf j).x) := cT 1 _ rfl
      have c2 : wr.cell? ⟨g, o + j * 7 + 2, none⟩ = some (.string (tf j).tx) := cT 2 _ rfl
      have c3 : wr.cell? ⟨g, o + j * 7 + 3, none⟩ = some (.slice (tf j).an (tf j).ns.length (tf j).cn) := cT 3 _ rfl
      have c4 : wr.cell? ⟨g, o + j * 7 + 4, none⟩ = some (.slice (tf j).ai (tf j).its.length (tf j).ci) := cT 4 _ rfl
      have c5 : wr.cell? ⟨g, o + j * 7 + 5, none⟩ = some (.string (tf j).sg) := cT 5 _ rfl
      have c6 : wr.cell? ⟨g, o + j * 7 + 6, none⟩ = some (.int .i64 (tf j).m) := cT 6 _ rfl
      clear cT hcl
      have i1 : (j : Int) < (n : Int) := by omega
      have i2 : (0 : Int) ≤ (j : Int) := by omega
      have hd : decide ((0 : Int) ≤ (j : Int)) = true := by simp
      obtain ⟨fn, tmps, assign, body, hy, hR⟩ := hY.out (backs n q) j wr hJ.out (by rw [backs_len]; exact hlt)
      unfold Trn.cells at hy
      rw [hj]
      gi_wp2
      refine hR.mono ?_
      rintro e W3 (⟨rfl, hJ3, hk3⟩ | ⟨rfl, hJx3⟩)
      · have hJ' : Hid (J (backs n (q + 1)) W3) := hid_of (by rw [backs_succ, hjq]; exact hJ3)
        have hK' : Hid (KpU U W W3) := hid_of (hK.out.trans hk3)
        gi_wp2
        go_roundw
        case rel => exact ⟨q + 1, by omega, by congr 1; omega, hJ', hK'⟩
        case measure => first | (simp [intOf]; done) | (simp [intOf]; omega)
      · gi_wp2
        refine bodyPost_ret (results_none rfl _ _ _) rfl ?_
        exact ⟨⟨_, rfl⟩, .inr ⟨_, trivial, hJx3⟩⟩
    · obtain rfl : q = n := by omega
      have hd : decide ((0 : Int) ≤ ((q : Int) - 1 - q)) = false := by simp; omega
      gi_wp2
      go_end0
      exact ⟨⟨_, rfl⟩, .inl ⟨_, rfl, hJ.out⟩⟩
end Go.Proofs.YthgnkhpomhcdkaaGreatDoor
/-! Taken over from r4b/S8. -/
namespace Go.Proofs.YthgnkhpomhcdkaaGreatDoor
open Go Go.RowKit Dp
attribute [local go_sem] Oper.semAt_some

/-- A turn that may be gone up. -/
def Trn.Good (w0 : World) (t : Trn) : Prop := (t.k = 5 ∨ t.k = 6) ∧ t.m ≤ (keepIts t.k t.ns t.its).length ∧ (t.its.length + 1) * 80 ≤ 140737488355328 ∧ VRep w0 (.node t.k t.x t.tx t.ns t.its) (five t.k t.x t.tx (.slice t.an t.ns.length t.cn) (.slice t.ai t.its.length t.ci))
def Trn.up (t : Trn) (X : Tr) : Tr := withT t.k t.ns t.its t.sg t.m X
def ups (tf : Nat → Trn) (l : List Nat) (X : Tr) : Tr := l.foldl (fun X i => (tf i).up X) X
theorem Seen.agree {W W' : World} {S : Nat → Prop} {t : Tr} {cs : List Value} (h : Seen W S t cs) (ha : Agree S W W') : Seen W' S t cs := fun W'' hb => h W'' ⟨Nat.le_trans ha.1 hb.1, fun p u hp hc => hb.2 p u hp (ha.2 p u hp hc)⟩
theorem Seen.wide {W : World} {S S' : Nat → Prop} {t : Tr} {cs : List Value} (h : Seen W S t cs) (hS : ∀ k, S k → S' k) : Seen W S' t cs := fun W' ha => h W' ⟨ha.1, fun p u hp hc => ha.2 p u (hS _ hp) hc⟩

set_option maxRecDepth 100000 in
set_option maxHeartbeats 2000000 in
theorem up_any (w0 w : World) (h0 : Sub w0 w) (n c : Nat) (hn : n ≤ 9223372036854775807) (a : Option Addr) (tf : Nat → Trn) (hG : 0 < n → ∀ i, (tf i).Good w0) (hT : ∀ i, i < n → ∃ g o, a = some ⟨g, o, none⟩ ∧ CellsAt w g (o + i * 7) (tf i).cells)
    (k1 x1 : Int) (s1 : ByteArray) (an1 : Option Addr) (ln1 cn1 : Nat) (ai1 : Option Addr) (li1 ci1 : Nat) (X : Tr) (S : Nat → Prop) (hS : ∀ k, S k → k < w.heap.size) (hS0 : ∀ p u, w0.cell? p = some u → S p.block) (hX : Seen w S X (five k1 x1 s1 (.slice an1 ln1 cn1) (.slice ai1 li1 ci1))) :
    Calls Tryz.prog 120 #[.slice a n c, .agg #[.int .i64 k1, .int .i64 x1, .string s1, .slice an1 ln1 cn1, .slice ai1 li1 ci1]] w fun e w' => Below w.heap.size w w' ∧ ∃ cs, e = .returned (.agg cs.toArray) ∧ Seen w' (fun k => S k ∨ w.heap.size + 1 < k) (ups tf (backs n n) X) cs := by
  refine (callsIn_wide (n := 5)).1 ?_
  have hro : Fence.wide.round = none := rfl
  refine callsIn_of_wp_marks Tryz.func120 rfl trivial ?_ hro
  simp only [Tryz.ntmps120, List.size_toArray, List.length_cons, List.length_nil, Nat.reduceAdd, Nat.reduceSub, Array.replicate_succ, Array.replicate_zero, List.push_toArray, List.append_toArray, List.nil_append, List.cons_append]
  gi_wp2_with (refine ⟨trivial, ?_⟩; gi_at_call 170; refine (back_t_in Fence.wide _ trivial hro _ _ _ _).mono ?_; rintro e w' ⟨rfl, rfl⟩)
  have hB0 : ∀ o1 o2 o3, Below w.heap.size w (((w.alloc o1).alloc o2).alloc o3) := fun o1 o2 o3 => (((Below.refl _ w).alloc (Nat.le_refl _) o1).alloc (by simp) o2).alloc (by simp; omega) o3
  have hn1 : ∀ o1 o2 o3, (((w.alloc o1).alloc o2).alloc o3).heap[w.heap.size]? = some o1 := fun o1 o2 o3 => by
    rw [Below.heap_alloc _ _ _ (by simp; omega)]; exact new1 w o1 o2
  have hn2 : ∀ o1 o2 o3, (((w.alloc o1).alloc o2).alloc o3).heap[w.heap.size + 1]? = some o2 := fun o1 o2 o3 => by
    rw [Below.heap_alloc _ _ _ (by simp)]; exact new2 w o1 o2
  have hn3 : ∀ o1 o2 o3, (((w.alloc o1).alloc o2).alloc o3).heap[w.heap.size + 1 + 1]? = some o3 := fun o1 o2 o3 => by
    have := heap_alloc_new ((w.alloc o1).alloc o2) o3
    rw [World.size_alloc, World.size_alloc] at this
    exact this
  obtain ⟨W0, hW0⟩ : ∃ W0, (((w.alloc (.cells #[.int .i64 k1, .int .i64 x1, .string s1, .slice an1 ln1 cn1, .slice ai1 li1 ci1] 28)).alloc (.cells #[.int .i64 0, .int .i64 0, .string ⟨#[]⟩, .slice none 0 0, .slice none 0 0] 28)).alloc (.cells #[.slice a n c] 164)) = W0 := ⟨_, rfl⟩
  have r0 := hn1 (.cells #[.int .i64 k1, .int .i64 x1, .string s1, .slice an1 ln1 cn1, .slice ai1 li1 ci1] 28) (.cells #[.int .i64 0, .int .i64 0, .string ⟨#[]⟩, .slice none 0 0, .slice none 0 0] 28) (.cells #[.slice a n c] 164)
  have r1 := hn2 (.cells #[.int .i64 k1, .int .i64 x1, .string s1, .slice an1 ln1 cn1, .slice ai1 li1 ci1] 28) (.cells #[.int .i64 0, .int .i64 0, .string ⟨#[]⟩, .slice none 0 0, .slice none 0 0] 28) (.cells #[.slice a n c] 164)
  have r2 := hn3 (.cells #[.int .i64 k1, .int .i64 x1, .string s1, .slice an1 ln1 cn1, .slice ai1 li1 ci1] 28) (.cells #[.int .i64 0, .int .i64 0, .string ⟨#[]⟩, .slice none 0 0, .slice none 0 0] 28) (.cells #[.slice a n c] 164)
  have hb0 := hB0 (.cells #[.int .i64 k1, .int .i64 x1, .string s1, .slice an1 ln1 cn1, .slice ai1 li1 ci1] 28) (.cells #[.int .i64 0, .int .i64 0, .string ⟨#[]⟩, .slice none 0 0, .slice none 0 0] 28) (.cells #[.slice a n c] 164)
  have hsz : W0.heap.size = w.heap.size + 3 := by rw [← hW0]; simp
  clear hB0 hn1 hn2 hn3
  rw [hW0] at r0 r1 r2 hb0
  rw [hW0]
  clear hW0
  have sB : W0.cell? ⟨w.heap.size + 1 + 1, 0, none⟩ = some (.slice a n c) := by simp [World.cell?, r2]
  have hT0 : ∀ i, i < n → ∃ g o, a = some ⟨g, o, none⟩ ∧ (g = w.heap.size + 1 + 1 ∨ g < w.heap.size) ∧ CellsAt W0 g (o + i * 7) (tf i).cells := fun i hi => by
    obtain ⟨g, o, e, hc⟩ := hT i hi
    have hlt : g < w.heap.size := cell_lt (hc 0 _ rfl)
    exact ⟨g, o, e, .inr hlt, hc.keep hb0 hlt⟩
  refine wpIn_rangeFunc_ownH hro (by decide) (gf := 205) (lb := #[.pointer (some ⟨w.heap.size + 1 + 1, 0, none⟩)]) rfl trivial (enters_of Tryz.func205 (by kernel_rfl) rfl)
    (back_t_n Fence.wide _ trivial hro (by decide) (w.heap.size + 1 + 1) n c a tf (fun j => j = w.heap.size + 1 + 1 ∨ j < w.heap.size) W0 (by omega) (.inl rfl) hn sB hT0) KpU.trans (fun W l o o' hl ho hc _ p u _ hu => cell_kept hu (grownBy_putObj' W l o') (fun r e => by cases e; exact ⟨o, ho, hc⟩)) (Below.refl _ _) (fun _ => rfl)
    (fun pre W => (∃ k9 x9 s9 a9 l9 d9 i9 j9 e9, Row5 W w.heap.size (.int .i64 k9) (.int .i64 x9) (.string s9) (.slice a9 l9 d9) (.slice i9 j9 e9) ∧ Row5 W (w.heap.size + 1) (.int .i64 0) (.int .i64 0) (.string ⟨#[]⟩) (.slice none 0 0) (.slice none 0 0) ∧
      Seen W (fun k => S k ∨ w.heap.size + 1 < k) (ups tf pre X) (five k9 x9 s9 (.slice a9 l9 d9) (.slice i9 j9 e9))) ∧ Below w.heap.size w W)
    (fun _ _ _ => False) ?own (fun _ _ _ _ _ hs _ _ => hs) ?start
    (fun i a' W => ∃ Bx, w.heap.size + 1 < Bx ∧ W.heap[Bx]? = some (.cells (tf i).cells.toArray 169 (0, 0)) ∧ a' = { tmps := #[.slice a n c, .agg #[.int .i64 k1, .int .i64 x1, .string s1, .slice an1 ln1 cn1, .slice ai1 li1 ci1], undef, .pointer (some ⟨w.heap.size, 0, none⟩), .pointer (some ⟨w.heap.size + 1, 0, none⟩), undef, .pointer (some ⟨Bx, 0, none⟩), .slice a n c, .func (.func 205) #[] #[.pointer (some ⟨w.heap.size + 1 + 1, 0, none⟩)], .int .i64 i, .agg (tf i).cells.toArray, undef, undef, undef, undef], defers := [] })
    ?ownA ?assign ?body ?done ?stop
  case own =>
    refine OwnFrom.and (Own.from (fun pre A B row hs hg hr => ?_) _) (ownFrom_below (Nat.le_refl _) (by omega))
    obtain ⟨k9, x9, s9, a9, l9, d9, i9, j9, e9, h1, h2, h3⟩ := hs
    exact ⟨k9, x9, s9, a9, l9, d9, i9, j9, e9, h1.own hg hr, h2.own hg hr, h3.agree ⟨hg.size, fun p u hp hc => cell_kept hc hg hr⟩⟩
  case start => exact ⟨⟨_, _, _, _, _, _, _, _, _, row5_of r0, row5_of r1, (hX.keep hb0).wide (fun _ h => .inl h)⟩, hb0⟩
  case ownA =>
    rintro i a' _ A B row ⟨Bx, h1, h2, h3⟩ hg hr
    refine ⟨Bx, h1, (hg.block Bx (Array.getElem?_eq_some_iff.1 h2).1 (fun e => ?_)).trans h2, h3⟩
    obtain ⟨_, o, ho, hc⟩ := hr Bx e.symm
    rw [h2] at ho; cases ho; cases hc
  case assign =>
    rintro l pre i W K hI hK
    unfold Trn.cells at *
    gi_wp2
    obtain ⟨⟨k9, x9, s9, a9, l9, d9, i9, j9, e9, h1, h2, h3⟩, hB⟩ := hI
    exact hK _ _ ((KeepsOthers.alloc _ _).from _) (fun p u _ hu => cell_alloc' hu _) ⟨⟨k9, x9, s9, a9, l9, d9, i9, j9, e9, h1.alloc _, h2.alloc _, h3.keep ((Below.refl _ W).alloc (Nat.le_refl _) _)⟩, hB.alloc hB.size _⟩ ⟨W.heap.size, h2.lt, heap_alloc_new W _, rfl⟩
  case body =>
    rintro l pre i a' W hl ⟨r, hr⟩ ⟨⟨k9, x9, s9, a9, l9, d9, i9, j9, e9, h1, h2, h3⟩, hB⟩ ⟨Bx, hBx, bX, rfl⟩ hlt
    obtain ⟨hk, hm, hb, hV⟩ := hG (by omega) i
    have hcw := with_any (tf i).k (tf i).x (tf i).tx (tf i).ns (tf i).its (tf i).an (tf i).ns.length (tf i).cn (tf i).ai (tf i).its.length (tf i).ci (tf i).sg (tf i).m hk hm hb k9 x9 s9 a9 l9 d9 i9 j9 e9 _ (fun k => S k ∨ w.heap.size + 1 < k) w0 W (h0.below hB) (fun p u hk => .inl (hS0 p u hk)) hV h3
    unfold Trn.cells at *
    obtain ⟨⟨y0, f0⟩, ⟨y1, f1⟩, ⟨y2, f2⟩, ⟨y3, f3⟩, ⟨y4, f4⟩⟩ := id h1
    have q0 : W.cell? ⟨Bx, 0, none⟩ = some (.int .i64 (tf i).k) := by simp [World.cell?, bX]
    have q1 : W.cell? ⟨Bx, 1, none⟩ = some (.int .i64 (tf i).x) := by simp [World.cell?, bX]
    have q2 : W.cell? ⟨Bx, 2, none⟩ = some (.string (tf i).tx) := by simp [World.cell?, bX]
    have q3 : W.cell? ⟨Bx, 3, none⟩ = some (.slice (tf i).an (tf i).ns.length (tf i).cn) := by simp [World.cell?, bX]
    have q4 : W.cell? ⟨Bx, 4, none⟩ = some (.slice (tf i).ai (tf i).its.length (tf i).ci) := by simp [World.cell?, bX]
    have q5 : W.cell? ⟨Bx, 5, none⟩ = some (.string (tf i).sg) := by simp [World.cell?, bX]
    have q6 : W.cell? ⟨Bx, 6, none⟩ = some (.int .i64 (tf i).m) := by simp [World.cell?, bX]
    replace h0 := hid_of h0; replace hG := hid_of hG; replace hT := hid_of hT; replace hT0 := hid_of hT0; replace hS := hid_of hS; replace hS0 := hid_of hS0; replace hX := hid_of hX; replace h3 := hid_of h3; replace hV := hid_of hV
    gi_wp2_with (refine ⟨trivial, ?_⟩; gi_at_call 171; refine (CallsIn.inRound l (callsIn_wide.2 hcw)).mono ?_; rintro e w2 ⟨hb2, cs, k9, x9, s9, a9, l9, d9, i9, j9, e9, rfl, hcs, hS2⟩; subst hcs; simp only [five]; replace hS2 := (show Hid _ from hS2); have h1b := h1.far (hb2.block _ h1.lt); obtain ⟨⟨v0, u0⟩, ⟨v1, u1⟩, ⟨v2, u2⟩, ⟨v3, u3⟩, ⟨v4, u4⟩⟩ := id h1b)
    have hlt1 := h1.lt
    have hlt2 := h2.lt
    have h2b := h2.far (hb2.block _ hlt2)
    have hpf : ∀ p : Addr, p.block ≠ w.heap.size → (put5 w2 w.heap.size (.int .i64 k9) (.int .i64 x9) (.string s9) (.slice a9 l9 d9) (.slice i9 j9 e9)).cell? p = w2.cell? p := fun p hp => World.cell?_of_block (w := w2) (put5_far _ _ _ _ _ hp)
    refine ⟨((keepsOthers_below hb2).trans (KeepsOthers.put5 _ _ _ _ _ _ _)).from _, fun p u hp hc => ?_, ⟨k9, x9, s9, a9, l9, d9, i9, j9, e9, h1b.put _ _ _ _ _, h2b.far (put5_far _ _ _ _ _ (by omega)), ?_⟩, (hB.trans (hb2.mono hB.size)).trans (put5_below (Nat.le_refl _) _ _ _ _ _)⟩
    · exact (hpf p (by rcases hp with e | e <;> omega)).trans ((hb2.cell (cell_lt hc)).trans hc)
    · have hS3 : Seen w2 (fun k => S k ∨ w.heap.size + 1 < k) (ups tf (pre ++ [i]) X) (five k9 x9 s9 (.slice a9 l9 d9) (.slice i9 j9 e9)) := by
        unfold ups
        rw [List.foldl_append]
        exact Seen.wide hS2.out (fun k h => h.elim id (fun h => .inr (by omega)))
      refine hS3.agree ⟨Nat.le_of_eq (put5_size w2 w.heap.size (.int .i64 k9) (.int .i64 x9) (.string s9) (.slice a9 l9 d9) (.slice i9 j9 e9)).symm, fun p u hp hc => (hpf p (fun e => ?_)).trans hc⟩
      rcases hp with h | h
      · have := hS.out _ h; omega
      · omega
  case done =>
    rintro D ys W hD rfl ⟨⟨k9, x9, s9, a9, l9, d9, i9, j9, e9, h1, h2, h3⟩, hB⟩ hK
    obtain ⟨⟨y0, f0⟩, ⟨y1, f1⟩, ⟨y2, f2⟩, ⟨y3, f3⟩, ⟨y4, f4⟩⟩ := h1
    obtain ⟨⟨z0, n0⟩, ⟨z1, n1⟩, ⟨z2, n2⟩, ⟨z3, n3⟩, ⟨z4, n4⟩⟩ := id h2
    replace h3 := hid_of h3; replace h0 := hid_of h0; replace hG := hid_of hG; replace hT := hid_of hT; replace hT0 := hid_of hT0; replace hS := hid_of hS; replace hS0 := hid_of hS0; replace hX := hid_of hX
    gi_wp2
    obtain ⟨Wp, hWp⟩ : ∃ Wp, put5 W (w.heap.size + 1) (.int .i64 k9) (.int .i64 x9) (.string s9) (.slice a9 l9 d9) (.slice i9 j9 e9) = Wp := ⟨_, rfl⟩
    have hWc := hWp
    unfold put5 at hWc
    rw [hWc]
    clear hWc
    have hK' : Wp.heap[D]? = some (.deferred (some [])) := by rw [← hWp]; exact (KeepsOthers.put5 _ _ _ _ _ _ _).same D _ hK rfl
    have hBp : Below w.heap.size w Wp := by rw [← hWp]; exact hB.trans (put5_below (by omega) _ _ _ _ _)
    have hr2 : Row5 Wp (w.heap.size + 1) (.int .i64 k9) (.int .i64 x9) (.string s9) (.slice a9 l9 d9) (.slice i9 j9 e9) := by rw [← hWp]; exact h2.put _ _ _ _ _
    have hSp : Hid (Seen Wp (fun k => S k ∨ w.heap.size + 1 < k) (ups tf (backs n n) X) (five k9 x9 s9 (.slice a9 l9 d9) (.slice i9 j9 e9))) := by
      rw [← hWp]
      refine hid_of (Seen.agree h3.out ⟨by rw [put5_size]; exact Nat.le_refl _, fun p u hp hc => (World.cell?_of_block (w := W) (put5_far _ _ _ _ _ (fun e => ?_))).trans hc⟩)
      rcases hp with h | h
      · have := hS.out _ h; omega
      · omega
    clear hWp h2 z0 z1 z2 z3 z4 n0 n1 n2 n3 n4 y0 y1 y2 y3 y4 f0 f1 f2 f3 f4 h3 hB hK
    have hkp : ∀ r, some D = some r → ∃ o, Wp.heap[r]? = some o ∧ o.isCells = false := fun r e => by cases e; exact ⟨_, hK', rfl⟩
    refine ⟨by simp, .inl ⟨_, _, rfl, run_takeDeferred hK', ?_⟩⟩
    replace hr2 := hr2.own (grownBy_putObj' _ D (.deferred none)) hkp
    have hV : Seen (Wp.putObj D (.deferred none)) (fun k => S k ∨ w.heap.size + 1 < k) (ups tf (backs n n) X) (five k9 x9 s9 (.slice a9 l9 d9) (.slice i9 j9 e9)) := Seen.agree hSp.out ⟨(grownBy_putObj' Wp D (.deferred none)).size, fun p u hp hc => cell_kept hc (grownBy_putObj' _ D (.deferred none)) hkp⟩
    have hBf := hBp.trans (belowK_b (w := w) (Nat.le_refl _) _ D _ (.deferred none) (by omega) hK' rfl rfl)
    clear hK' hkp hBp hSp
    generalize Wp.putObj D (.deferred none) = Wf at *
    obtain ⟨⟨r0, -⟩, ⟨r1, -⟩, ⟨r2, -⟩, ⟨r3, -⟩, ⟨r4, -⟩⟩ := hr2
    exact ⟨.agg #[.int .i64 k9, .int .i64 x9, .string s9, .slice a9 l9 d9, .slice i9 j9 e9], by simp [results, Tryz.results120, go_sem, r0, r1, r2, r3, r4], hBf, five k9 x9 s9 (.slice a9 l9 d9) (.slice i9 j9 e9), rfl, hV⟩
  case stop =>
    rintro D c pre W _ _ h _
    exact h.elim
end Go.Proofs.YthgnkhpomhcdkaaGreatDoor
/-! Taken over from r4b/S9. -/
namespace Go.Proofs.YthgnkhpomhcdkaaGreatDoor
open Go Go.RowKit Dp
attribute [local go_sem] Oper.semAt_some

set_option maxRecDepth 100000 in
set_option maxHeartbeats 1000000 in
theorem back_s_n (F : Fence) (r : Nat) (hf : F.fn 253) (hro : F.round = none) (hr : 1 ≤ r) (Bs n c : Nat) (a : Option Addr) (sf : Nat → ByteArray) (U : Nat → Prop) (w : World) (hBs : Bs < w.heap.size) (hUB : U Bs) (hn : n ≤ 9223372036854775807)
    (hc : w.cell? ⟨Bs, 0, none⟩ = some (.slice a n c)) (hs : ∀ i, i < n → ∃ g o, a = some ⟨g, o, none⟩ ∧ U g ∧ w.cell? ⟨g, o + i, none⟩ = some (.string (sf i))) :
    SeqStopsK F r Tryz.prog 253 #[.pointer (some ⟨Bs, 0, none⟩)] (fun i : Nat => #[Value.int .i64 i, Value.string (sf i)]) (KpU U) (fun ys => ys = backs n n) (fun _ => True) n w := fun l J Jx W hW _ _ hY h0 => by
  have hc' := (hW.cell (p := ⟨Bs, 0, none⟩) hBs).trans hc
  refine callsIn_of_wp Tryz.func253 rfl hf ?_ hro
  simp only [Tryz.ntmps253, List.size_toArray, List.length_cons, List.length_nil, Nat.reduceAdd, Nat.reduceSub, Array.replicate_succ, Array.replicate_zero, List.push_toArray, List.append_toArray, List.nil_append, List.cons_append]
  gi_wp2
  replace hs := hid_of hs; replace hW := hid_of hW; replace hY := hid_of hY
  gi_loopw [3] (fun i wr => ∃ q : Nat, q ≤ n ∧ i = .int .i64 ((n : Int) - 1 - q) ∧ Hid (J (backs n q) wr) ∧ Hid (KpU U W wr)) (fun i _ => (intOf i + 1).toNat)
  case atStart => exact ⟨0, Nat.zero_le _, by simp, hid_of h0, hid_of (fun _ _ _ h => h)⟩
  case round =>
    obtain ⟨q, hq, rfl, hJ, hK⟩ := hrel
    by_cases hlt : q < n
    · obtain ⟨j, hj⟩ : ∃ j : Nat, (n : Int) - 1 - q = (j : Int) := ⟨n - 1 - q, by omega⟩
      have hjq : n - 1 - q = j := by omega
      have hjn : j < n := by omega
      obtain ⟨g, o, rfl, hUg, hcl⟩ := hs.out j hjn
      have cB : wr.cell? ⟨Bs, 0, none⟩ = some (.slice (some ⟨g, o, none⟩) n c) := hK.out _ _ hUB hc'
      have c0 : wr.cell? ⟨g, o + j, none⟩ = some (.string (sf j)) := hK.out _ _ hUg ((hW.out.cell (cell_lt hcl)).trans hcl)
      clear hcl
      have i1 : (j : Int) < (n : Int) := by omega
      have i2 : (0 : Int) ≤ (j : Int) := by omega
      have hd : decide ((0 : Int) ≤ (j : Int)) = true := by simp
      obtain ⟨fn, tmps, assign, body, hy, hR⟩ := hY.out (backs n q) j wr hJ.out (by rw [backs_len]; exact hlt)
      rw [hj]
      gi_wp2
      refine hR.mono ?_
      rintro e W3 (⟨rfl, hJ3, hk3⟩ | ⟨rfl, hJx3⟩)
      · have hJ' : Hid (J (backs n (q + 1)) W3) := hid_of (by rw [backs_succ, hjq]; exact hJ3)
        have hK' : Hid (KpU U W W3) := hid_of (hK.out.trans hk3)
        gi_wp2
        go_roundw
        case rel => exact ⟨q + 1, by omega, by congr 1; omega, hJ', hK'⟩
        case measure => first | (simp [intOf]; done) | (simp [intOf]; omega)
      · gi_wp2
        refine bodyPost_ret (results_none rfl _ _ _) rfl ?_
        exact ⟨⟨_, rfl⟩, .inr ⟨_, trivial, hJx3⟩⟩
    · obtain rfl : q = n := by omega
      have hd : decide ((0 : Int) ≤ ((q : Int) - 1 - q)) = false := by simp; omega
      gi_wp2
      go_end0
      exact ⟨⟨_, rfl⟩, .inl ⟨_, rfl, hJ.out⟩⟩
/-- X in new objects of one member each. -/
def nests (sf : Nat → ByteArray) (l : List Nat) (X : Tr) : Tr := l.foldl (fun X i => .node 6 0 ⟨#[]⟩ [sf i] [X]) X
set_option maxRecDepth 100000 in
set_option maxHeartbeats 2000000 in
theorem within_any (w : World) (n c : Nat) (hn : n ≤ 9223372036854775807) (a : Option Addr) (sf : Nat → ByteArray) (hT : ∀ i, i < n → ∃ g o, a = some ⟨g, o, none⟩ ∧ w.cell? ⟨g, o + i, none⟩ = some (.string (sf i)))
    (k1 x1 : Int) (s1 : ByteArray) (an1 : Option Addr) (ln1 cn1 : Nat) (ai1 : Option Addr) (li1 ci1 : Nat) (X : Tr) (S : Nat → Prop) (hS : ∀ k, S k → k < w.heap.size) (hX : Seen w S X (five k1 x1 s1 (.slice an1 ln1 cn1) (.slice ai1 li1 ci1))) :
    Calls Tryz.prog 167 #[.slice a n c, .agg #[.int .i64 k1, .int .i64 x1, .string s1, .slice an1 ln1 cn1, .slice ai1 li1 ci1]] w fun e w' => Below w.heap.size w w' ∧ ∃ cs, e = .returned (.agg cs.toArray) ∧ Seen w' (fun k => S k ∨ w.heap.size + 1 < k) (nests sf (backs n n) X) cs := by
  refine (callsIn_wide (n := 5)).1 ?_
  have hro : Fence.wide.round = none := rfl
  refine callsIn_of_wp_marks Tryz.func167 rfl trivial ?_ hro
  simp only [Tryz.ntmps167, List.size_toArray, List.length_cons, List.length_nil, Nat.reduceAdd, Nat.reduceSub, Array.replicate_succ, Array.replicate_zero, List.push_toArray, List.append_toArray, List.nil_append, List.cons_append]
  gi_wp2_with (refine ⟨trivial, ?_⟩; gi_at_call 204; refine (back_s_in Fence.wide _ trivial hro _ _ _ _).mono ?_; rintro e w' ⟨rfl, rfl⟩)
  have hB0 : ∀ o1 o2 o3, Below w.heap.size w (((w.alloc o1).alloc o2).alloc o3) := fun o1 o2 o3 => (((Below.refl _ w).alloc (Nat.le_refl _) o1).alloc (by simp) o2).alloc (by simp; omega) o3
  have hn1 : ∀ o1 o2 o3, (((w.alloc o1).alloc o2).alloc o3).heap[w.heap.size]? = some o1 := fun o1 o2 o3 => by
    rw [Below.heap_alloc _ _ _ (by simp; omega)]; exact new1 w o1 o2
  have hn2 : ∀ o1 o2 o3, (((w.alloc o1).alloc o2).alloc o3).heap[w.heap.size + 1]? = some o2 := fun o1 o2 o3 => by
    rw [Below.heap_alloc _ _ _ (by simp)]; exact new2 w o1 o2
  have hn3 : ∀ o1 o2 o3, (((w.alloc o1).alloc o2).alloc o3).heap[w.heap.size + 1 + 1]? = some o3 := fun o1 o2 o3 => by
    have := heap_alloc_new ((w.alloc o1).alloc o2) o3
    rw [World.size_alloc, World.size_alloc] at this
    exact this
  obtain ⟨W0, hW0⟩ : ∃ W0, (((w.alloc (.cells #[.int .i64 k1, .int .i64 x1, .string s1, .slice an1 ln1 cn1, .slice ai1 li1 ci1] 28)).alloc (.cells #[.int .i64 0, .int .i64 0, .string ⟨#[]⟩, .slice none 0 0, .slice none 0 0] 28)).alloc (.cells #[.slice a n c] 25)) = W0 := ⟨_, rfl⟩
  have r0 := hn1 (.cells #[.int .i64 k1, .int .i64 x1, .string s1, .slice an1 ln1 cn1, .slice ai1 li1 ci1] 28) (.cells #[.int .i64 0, .int .i64 0, .string ⟨#[]⟩, .slice none 0 0, .slice none 0 0] 28) (.cells #[.slice a n c] 25)
  have r1 := hn2 (.cells #[.int .i64 k1, .int .i64 x1, .string s1, .slice an1 ln1 cn1, .slice ai1 li1 ci1] 28) (.cells #[.int .i64 0, .int .i64 0, .string ⟨#[]⟩, .slice none 0 0, .slice none 0 0] 28) (.cells #[.slice a n c] 25)
  have r2 := hn3 (.cells #[.int .i64 k1, .int .i64 x1, .string s1, .slice an1 ln1 cn1, .slice ai1 li1 ci1] 28) (.cells #[.int .i64 0, .int .i64 0, .string ⟨#[]⟩, .slice none 0 0, .slice none 0 0] 28) (.cells #[.slice a n c] 25)
  have hb0 := hB0 (.cells #[.int .i64 k1, .int .i64 x1, .string s1, .slice an1 ln1 cn1, .slice ai1 li1 ci1] 28) (.cells #[.int .i64 0, .int .i64 0, .string ⟨#[]⟩, .slice none 0 0, .slice none 0 0] 28) (.cells #[.slice a n c] 25)
  have hsz : W0.heap.size = w.heap.size + 3 := by rw [← hW0]; simp
  clear hB0 hn1 hn2 hn3
  rw [hW0] at r0 r1 r2 hb0
  rw [hW0]
  clear hW0
  have sB : W0.cell? ⟨w.heap.size + 1 + 1, 0, none⟩ = some (.slice a n c) := by simp [World.cell?, r2]
  have hT0 : ∀ i, i < n → ∃ g o, a = some ⟨g, o, none⟩ ∧ (g = w.heap.size + 1 + 1 ∨ g < w.heap.size) ∧ W0.cell? ⟨g, o + i, none⟩ = some (.string (sf i)) := fun i hi => by
    obtain ⟨g, o, e, hc⟩ := hT i hi
    have hlt : g < w.heap.size := cell_lt hc
    exact ⟨g, o, e, .inr hlt, (hb0.cell (p := ⟨g, o + i, none⟩) hlt).trans hc⟩
  refine wpIn_rangeFunc_ownG hro (by decide) (gf := 253) (lb := #[.pointer (some ⟨w.heap.size + 1 + 1, 0, none⟩)]) rfl trivial (enters_of Tryz.func253 (by kernel_rfl) rfl)
    (back_s_n Fence.wide _ trivial hro (by decide) (w.heap.size + 1 + 1) n c a sf (fun j => j = w.heap.size + 1 + 1 ∨ j < w.heap.size) W0 (by omega) (.inl rfl) hn sB hT0) KpU.trans (fun W l o o' hl ho hc _ p u _ hu => cell_kept hu (grownBy_putObj' W l o') (fun r e => by cases e; exact ⟨o, ho, hc⟩)) (Below.refl _ _) (fun _ => rfl)
    (fun pre W => (∃ k9 x9 s9 a9 l9 d9 i9 j9 e9, Row5 W w.heap.size (.int .i64 k9) (.int .i64 x9) (.string s9) (.slice a9 l9 d9) (.slice i9 j9 e9) ∧ Row5 W (w.heap.size + 1) (.int .i64 0) (.int .i64 0) (.string ⟨#[]⟩) (.slice none 0 0) (.slice none 0 0) ∧
      Seen W (fun k => S k ∨ w.heap.size + 1 < k) (nests sf pre X) (five k9 x9 s9 (.slice a9 l9 d9) (.slice i9 j9 e9))) ∧ Below w.heap.size w W)
    (fun _ _ _ => False) ?own (fun _ _ _ _ _ hs _ _ => hs) ?start
    (fun i => { tmps := #[.slice a n c, .agg #[.int .i64 k1, .int .i64 x1, .string s1, .slice an1 ln1 cn1, .slice ai1 li1 ci1], undef, .pointer (some ⟨w.heap.size, 0, none⟩), .pointer (some ⟨w.heap.size + 1, 0, none⟩), undef, .string (sf i), .slice a n c, .func (.func 253) #[] #[.pointer (some ⟨w.heap.size + 1 + 1, 0, none⟩)], .int .i64 i, .string (sf i), undef, undef, undef, undef, undef, undef], defers := [] }) ?assign ?body ?done ?stop
  case own =>
    refine OwnFrom.and (Own.from (fun pre A B row hs hg hr => ?_) _) (ownFrom_below (Nat.le_refl _) (by omega))
    obtain ⟨k9, x9, s9, a9, l9, d9, i9, j9, e9, h1, h2, h3⟩ := hs
    exact ⟨k9, x9, s9, a9, l9, d9, i9, j9, e9, h1.own hg hr, h2.own hg hr, h3.agree ⟨hg.size, fun p u hp hc => cell_kept hc hg hr⟩⟩
  case start => exact ⟨⟨_, _, _, _, _, _, _, _, _, row5_of r0, row5_of r1, (hX.keep hb0).wide (fun _ h => .inl h)⟩, hb0⟩
  case assign =>
    intro l x W K hK
    gi_wp2
    exact hK
  case body =>
    rintro l pre i W ⟨⟨k9, x9, s9, a9, l9, d9, i9, j9, e9, h1, h2, h3⟩, hB⟩ hlt
    have y0 := fun o => (h1.alloc o).1.1; have y1 := fun o => (h1.alloc o).2.1.1; have y2 := fun o => (h1.alloc o).2.2.1.1; have y3 := fun o => (h1.alloc o).2.2.2.1.1; have y4 := fun o => (h1.alloc o).2.2.2.2.1
    have z0 := fun o o' => ((h1.alloc o).alloc o').1.1; have z1 := fun o o' => ((h1.alloc o).alloc o').2.1.1; have z2 := fun o o' => ((h1.alloc o).alloc o').2.2.1.1; have z3 := fun o o' => ((h1.alloc o).alloc o').2.2.2.1.1; have z4 := fun o o' => ((h1.alloc o).alloc o').2.2.2.2.1
    have f0 := fun o o' => ((h1.alloc o).alloc o').1.2; have f1 := fun o o' => ((h1.alloc o).alloc o').2.1.2; have f2 := fun o o' => ((h1.alloc o).alloc o').2.2.1.2; have f3 := fun o o' => ((h1.alloc o).alloc o').2.2.2.1.2; have f4 := fun o o' => ((h1.alloc o).alloc o').2.2.2.2.2
    replace hT := hid_of hT; replace hT0 := hid_of hT0; replace hS := hid_of hS; replace hX := hid_of hX; replace h3 := hid_of h3
    gi_wp2
    clear y0 y1 y2 y3 y4 z0 z1 z2 z3 z4 f0 f1 f2 f3 f4
    have hlt1 := h1.lt
    have hlt2 := h2.lt
    have hBa : Below W.heap.size W ((W.alloc (.cells #[.string (sf i)] 9)).alloc (.cells #[.int .i64 k9, .int .i64 x9, .string s9, .slice a9 l9 d9, .slice i9 j9 e9] 28)) := ((Below.refl _ W).alloc (Nat.le_refl _) _).alloc (by simp) _
    obtain ⟨Wp, hWp⟩ : ∃ Wp, put5 ((W.alloc (.cells #[.string (sf i)] 9)).alloc (.cells #[.int .i64 k9, .int .i64 x9, .string s9, .slice a9 l9 d9, .slice i9 j9 e9] 28)) w.heap.size (.int .i64 6) (.int .i64 0) (.string ⟨#[]⟩) (.slice (some ⟨W.heap.size, 0, none⟩) 1 1) (.slice (some ⟨W.heap.size + 1, 0, none⟩) 1 1) = Wp := ⟨_, rfl⟩
    have hpf : ∀ j, j ≠ w.heap.size → Wp.heap[j]? = ((W.alloc (.cells #[.string (sf i)] 9)).alloc (.cells #[.int .i64 k9, .int .i64 x9, .string s9, .slice a9 l9 d9, .slice i9 j9 e9] 28)).heap[j]? := fun j hj => by rw [← hWp]; exact put5_far _ _ _ _ _ hj
    have hps : Wp.heap.size = W.heap.size + 2 := by rw [← hWp, put5_size]; simp
    have hcell : ∀ p u, p.block ≠ w.heap.size → W.cell? p = some u → Wp.cell? p = some u := fun p u hp hc => (World.cell?_of_block (w := ((W.alloc (.cells #[.string (sf i)] 9)).alloc (.cells #[.int .i64 k9, .int .i64 x9, .string s9, .slice a9 l9 d9, .slice i9 j9 e9] 28))) (hpf _ hp)).trans ((hBa.cell (cell_lt hc)).trans hc)
    have n1 : Wp.heap[W.heap.size]? = some (.cells #[.string (sf i)] 9) := (hpf _ (by omega)).trans (new1 W _ _)
    have n2 : Wp.heap[W.heap.size + 1]? = some (.cells #[.int .i64 k9, .int .i64 x9, .string s9, .slice a9 l9 d9, .slice i9 j9 e9] 28) := (hpf _ (by omega)).trans (new2 W _ _)
    have hko : KeepsOthers W Wp := by rw [← hWp]; exact (KeepsOthers.alloc _ _).trans ((KeepsOthers.alloc _ _).trans (KeepsOthers.put5 _ _ _ _ _ _ _))
    have hr1 : Row5 Wp w.heap.size (.int .i64 6) (.int .i64 0) (.string ⟨#[]⟩) (.slice (some ⟨W.heap.size, 0, none⟩) 1 1) (.slice (some ⟨W.heap.size + 1, 0, none⟩) 1 1) := by rw [← hWp]; exact ((h1.alloc _).alloc _).put _ _ _ _ _
    have hr2 := ((h2.alloc (.cells #[.string (sf i)] 9)).alloc (.cells #[.int .i64 k9, .int .i64 x9, .string s9, .slice a9 l9 d9, .slice i9 j9 e9] 28)).far (hpf (w.heap.size + 1) (by omega))
    have hBp : Below w.heap.size w Wp := by rw [← hWp]; exact ((hB.alloc (by omega) _).alloc (by simp; omega) _).trans (put5_below (Nat.le_refl _) _ _ _ _ _)
    have hse : Seen Wp (fun k => S k ∨ w.heap.size + 1 < k) (nests sf (pre ++ [i]) X) (five 6 0 ⟨#[]⟩ (.slice (some ⟨W.heap.size, 0, none⟩) 1 1) (.slice (some ⟨W.heap.size + 1, 0, none⟩) 1 1)) := by
      unfold nests
      rw [List.foldl_append]
      refine fun W' ha => one_object (ha.2 _ _ (.inr (show w.heap.size + 1 < W.heap.size by omega)) (by simp [World.cell?, n1])) (by have := ha.1; omega) (fun j u hj => ha.2 ⟨W.heap.size + 1, 0 + j, none⟩ u (.inr (show w.heap.size + 1 < W.heap.size + 1 by omega)) ((row5_of n2).cells j u hj)) (Seen.agree h3.out ⟨by omega, fun p u hp hc => hcell p u (fun e => ?_) hc⟩ W' ha)
      rcases hp with h | h
      · have := hS.out _ h; omega
      · omega
    unfold put5 at hWp
    rw [hWp]
    exact ⟨hko.from _, fun p u hp hc => hcell p u (by rcases hp with e | e <;> omega) hc, ⟨6, 0, ⟨#[]⟩, _, _, _, _, _, _, hr1, hr2, hse⟩, hBp⟩
  case done =>
    rintro D ys W hD rfl ⟨⟨k9, x9, s9, a9, l9, d9, i9, j9, e9, h1, h2, h3⟩, hB⟩ hK
    obtain ⟨⟨y0, f0⟩, ⟨y1, f1⟩, ⟨y2, f2⟩, ⟨y3, f3⟩, ⟨y4, f4⟩⟩ := h1
    obtain ⟨⟨z0, n0⟩, ⟨z1, n1⟩, ⟨z2, n2⟩, ⟨z3, n3⟩, ⟨z4, n4⟩⟩ := id h2
    replace h3 := hid_of h3; replace hT := hid_of hT; replace hT0 := hid_of hT0; replace hS := hid_of hS; replace hX := hid_of hX
    gi_wp2
    obtain ⟨Wp, hWp⟩ : ∃ Wp, put5 W (w.heap.size + 1) (.int .i64 k9) (.int .i64 x9) (.string s9) (.slice a9 l9 d9) (.slice i9 j9 e9) = Wp := ⟨_, rfl⟩
    have hWc := hWp
    unfold put5 at hWc
    rw [hWc]
    clear hWc
    have hK' : Wp.heap[D]? = some (.deferred (some [])) := by rw [← hWp]; exact (KeepsOthers.put5 _ _ _ _ _ _ _).same D _ hK rfl
    have hBp : Below w.heap.size w Wp := by rw [← hWp]; exact hB.trans (put5_below (by omega) _ _ _ _ _)
    have hr2 : Row5 Wp (w.heap.size + 1) (.int .i64 k9) (.int .i64 x9) (.string s9) (.slice a9 l9 d9) (.slice i9 j9 e9) := by rw [← hWp]; exact h2.put _ _ _ _ _
    have hSp : Hid (Seen Wp (fun k => S k ∨ w.heap.size + 1 < k) (nests sf (backs n n) X) (five k9 x9 s9 (.slice a9 l9 d9) (.slice i9 j9 e9))) := by
      rw [← hWp]
      refine hid_of (Seen.agree h3.out ⟨by rw [put5_size]; exact Nat.le_refl _, fun p u hp hc => (World.cell?_of_block (w := W) (put5_far _ _ _ _ _ (fun e => ?_))).trans hc⟩)
      rcases hp with h | h
      · have := hS.out _ h; omega
      · omega
    clear hWp h2 z0 z1 z2 z3 z4 n0 n1 n2 n3 n4 y0 y1 y2 y3 y4 f0 f1 f2 f3 f4 h3 hB hK
    have hkp : ∀ r, some D = some r → ∃ o, Wp.heap[r]? = some o ∧ o.isCells = false := fun r e => by cases e; exact ⟨_, hK', rfl⟩
    refine ⟨by simp, .inl ⟨_, _, rfl, run_takeDeferred hK', ?_⟩⟩
    replace hr2 := hr2.own (grownBy_putObj' _ D (.deferred none)) hkp
    have hV : Seen (Wp.putObj D (.deferred none)) (fun k => S k ∨ w.heap.size + 1 < k) (nests sf (backs n n) X) (five k9 x9 s9 (.slice a9 l9 d9) (.slice i9 j9 e9)) := Seen.agree hSp.out ⟨(grownBy_putObj' Wp D (.deferred none)).size, fun p u hp hc => cell_kept hc (grownBy_putObj' _ D (.deferred none)) hkp⟩
    have hBf := hBp.trans (belowK_b (w := w) (Nat.le_refl _) _ D _ (.deferred none) (by omega) hK' rfl rfl)
    clear hK' hkp hBp hSp
    generalize Wp.putObj D (.deferred none) = Wf at *
    obtain ⟨⟨r0, -⟩, ⟨r1, -⟩, ⟨r2, -⟩, ⟨r3, -⟩, ⟨r4, -⟩⟩ := hr2
    exact ⟨.agg #[.int .i64 k9, .int .i64 x9, .string s9, .slice a9 l9 d9, .slice i9 j9 e9], by simp [results, Tryz.results167, go_sem, r0, r1, r2, r3, r4], hBf, five k9 x9 s9 (.slice a9 l9 d9) (.slice i9 j9 e9), rfl, hV⟩
  case stop =>
    rintro D c pre W _ _ h _
    exact h.elim
end Go.Proofs.YthgnkhpomhcdkaaGreatDoor
/-! Taken over from r4b/S10. -/
namespace Go.Proofs.YthgnkhpomhcdkaaGreatDoor
open Go Go.RowKit Dp

/-- The way down: the error, and the turns. -/
def downT : Tr → List ByteArray → Int × List (Tr × ByteArray × Nat)
  | _, [] => (0, [])
  | t, s :: r =>
    if placeB t.kind t.names t.items.length s = true then
      match t.items[(placeI t.kind t.names s).toNat]? with
      | none => (0, [])
      | some u => if (downT u r).1 = 0 then (0, (t, s, (placeI t.kind t.names s).toNat) :: (downT u r).2) else downT u r
    else if t.kind = 6 ∨ (t.kind = 5 ∧ idx s = some t.items.length) then (0, [(t, s, (keepIts t.kind t.names t.items).length)])
    else if t.kind = 5 ∧ (idx s).isSome = true then (22, []) else (21, [])
def Trn.tr (t : Trn) : Tr := .node t.k t.x t.tx t.ns t.its
def Trn.five (t : Trn) : List Value := Go.Proofs.YthgnkhpomhcdkaaGreatDoor.five t.k t.x t.tx (.slice t.an t.ns.length t.cn) (.slice t.ai t.its.length t.ci)
def Trn.st (t : Trn) : Tr × ByteArray × Nat := (t.tr, t.sg, t.m)
def Trn.Ok (w : World) (t : Trn) : Prop := (t.k = 5 ∨ t.k = 6) ∧ t.m ≤ (keepIts t.k t.ns t.its).length ∧ VRep w t.tr t.five
def turnCells (ts : List Trn) : List Value := ts.flatMap Trn.cells
theorem turnCells_snoc (ts : List Trn) (t : Trn) : turnCells (ts ++ [t]) = turnCells ts ++ t.cells := by simp [turnCells]
def goOn (ts : List Trn) (d : Int × List (Tr × ByteArray × Nat)) : Int × List (Tr × ByteArray × Nat) := if d.1 = 0 then (0, ts.map Trn.st ++ d.2) else d
def DownPost (w0 w : World) (d : Int × List (Tr × ByteArray × Nat)) (e : Ending) (w' : World) : Prop :=
  Below w.heap.size w w' ∧ ((d.1 ≠ 0 ∧ e = .returned (.tuple #[.slice none 0 0, .int .i64 d.1])) ∨
    (d.1 = 0 ∧ ∃ tv ts, e = .returned (.tuple #[tv, .int .i64 0]) ∧ w'.ownsRow w.heap.size 169 7 tv ts.length (turnCells ts) ∧ ts.map Trn.st = d.2 ∧ ∀ tn ∈ ts, tn.Ok w0))
theorem goOn_there {ts : List Trn} {t u : Tr} {s : ByteArray} {r : List ByteArray} {i : Nat} (tn : Trn) (h : placeB t.kind t.names t.items.length s = true) (hi : placeI t.kind t.names s = i) (hu : t.items[i]? = some u) (ht : tn.st = (t, s, i)) : goOn ts (downT t (s :: r)) = goOn (ts ++ [tn]) (downT u r) := by
  have hd : downT t (s :: r) = if (downT u r).1 = 0 then (0, (t, s, i) :: (downT u r).2) else downT u r := by
    rw [downT, if_pos h, hi, Int.toNat_natCast, hu]
  rw [hd]
  unfold goOn
  by_cases h0 : (downT u r).1 = 0
  · rw [if_pos h0, if_pos rfl, if_pos h0]; simp [ht]
  · rw [if_neg h0, if_neg h0, if_neg h0]
theorem idxFromS_lt (x : ByteArray) : (zs : List ByteArray) → (i : Nat) → Lib.idxFromS zs x i < ((i + zs.length : Nat) : Int) ∨ Lib.idxFromS zs x i = -1
  | [], i => .inr rfl
  | z :: zs, i => by
    unfold Lib.idxFromS
    split
    · exact .inl (by simp; omega)
    · rcases idxFromS_lt x zs (i + 1) with h | h
      · exact .inl (by rw [List.length_cons]; omega)
      · exact .inr h
theorem place_keep {k : Int} {ns : List ByteArray} {its : List Tr} {s : ByteArray} {i : Nat} (h : placeB k ns its.length s = true) (hi : placeI k ns s = i) : (k = 5 ∨ k = 6) ∧ i < (keepIts k ns its).length := by
  unfold placeB at h
  unfold placeI at hi
  unfold keepIts
  by_cases h6 : k = 6
  · rw [if_pos h6] at *
    simp at h
    have hlt := idxFromS_lt s ns 0
    unfold Lib.idxOfS at *
    rw [Nat.zero_add] at hlt
    refine ⟨.inr h6, ?_⟩
    rw [List.length_take]
    omega
  · rw [if_neg h6] at *
    by_cases h5 : k = 5
    · rw [if_pos h5] at *
      simp at h
      exact ⟨.inl h5, by omega⟩
    · rw [if_neg h5] at h; cases h

theorem two_below (w : World) (o1 o2 : Obj) : Below w.heap.size w ((w.alloc o1).alloc o2) := ((Below.refl _ w).alloc (Nat.le_refl _) o1).alloc (by simp) o2
theorem bare6b (x : Int) (tx : ByteArray) (an : Option Addr) (ns : List ByteArray) (cn : Nat) (ai : Option Addr) (its : List Tr) (ci : Nat) (hn : ns.length ≤ cn) (hi : its.length ≤ ci) (w : World) :
    Calls Tryz.prog 169 #[.agg #[.int .i64 6, .int .i64 x, .string tx, .slice an ns.length cn, .slice ai its.length ci]] w fun e w' => e = .returned (.agg #[.int .i64 6, .int .i64 0, .string ⟨#[]⟩, .slice an (keepIts 6 ns its).length cn, .slice ai (keepIts 6 ns its).length ci]) ∧ Below w.heap.size w w' := by
  have hk : (keepIts 6 ns its).length = min ns.length its.length := by unfold keepIts; rw [if_pos rfl, List.length_take]; omega
  rw [hk]
  refine (bare6 x tx an ns.length cn ai its.length ci _ rfl hn hi w).mono ?_
  rintro e w' ⟨rfl, rfl⟩
  exact ⟨rfl, below_drew (two_below _ _ _)⟩
theorem bare5b (x : Int) (tx : ByteArray) (an : Option Addr) (ln cn : Nat) (ai : Option Addr) (li ci : Nat) (w : World) :
    Calls Tryz.prog 169 #[.agg #[.int .i64 5, .int .i64 x, .string tx, .slice an ln cn, .slice ai li ci]] w fun e w' => e = .returned (.agg #[.int .i64 5, .int .i64 0, .string ⟨#[]⟩, .slice none 0 0, .slice ai li ci]) ∧ Below w.heap.size w w' := by
  refine (bare5 x tx an ln cn ai li ci w).mono ?_
  rintro e w' ⟨rfl, rfl⟩
  exact ⟨rfl, two_below _ _ _⟩
theorem bareNb (k x : Int) (tx : ByteArray) (an : Option Addr) (ln cn : Nat) (ai : Option Addr) (li ci : Nat) (h5 : k ≠ 5) (h6 : k ≠ 6) (w : World) :
    Calls Tryz.prog 169 #[.agg #[.int .i64 k, .int .i64 x, .string tx, .slice an ln cn, .slice ai li ci]] w fun e w' => e = .returned (.agg #[.int .i64 k, .int .i64 0, .string ⟨#[]⟩, .slice none 0 0, .slice none 0 0]) ∧ Below w.heap.size w w' := by
  refine (bare_none k x tx an ln cn ai li ci h5 h6 w).mono ?_
  rintro e w' ⟨rfl, rfl⟩
  exact ⟨rfl, two_below _ _ _⟩
theorem goOn_new {ts : List Trn} {t : Tr} {s : ByteArray} {r : List ByteArray} {m : Nat} (h : placeB t.kind t.names t.items.length s = false) (hk : t.kind = 6 ∨ (t.kind = 5 ∧ idx s = some t.items.length)) (hm : (keepIts t.kind t.names t.items).length = m) : goOn ts (downT t (s :: r)) = (0, ts.map Trn.st ++ [(t, s, m)]) := by
  rw [downT, if_neg (by simp [h]), if_pos hk, hm]; rfl
theorem goOn_22 {ts : List Trn} {t : Tr} {s : ByteArray} {r : List ByteArray} {z : Nat} (h : placeB t.kind t.names t.items.length s = false) (hk : t.kind = 5) (hz : idx s = some z) (hne : z ≠ t.items.length) : goOn ts (downT t (s :: r)) = (22, []) := by
  rw [downT, if_neg (by simp [h]), if_neg (by simp [hk, hz, hne]), if_pos (by simp [hk, hz])]; rfl
theorem goOn_21 {ts : List Trn} {t : Tr} {s : ByteArray} {r : List ByteArray} (h : placeB t.kind t.names t.items.length s = false) (h6 : t.kind ≠ 6) (hk : t.kind ≠ 5 ∨ idx s = none) : goOn ts (downT t (s :: r)) = (21, []) := by
  have h1 : ¬ (t.kind = 6 ∨ (t.kind = 5 ∧ idx s = some t.items.length)) := by rcases hk with hk | hk <;> simp [h6, hk]
  have h2 : ¬ (t.kind = 5 ∧ (idx s).isSome = true) := by rcases hk with hk | hk <;> simp [hk]
  rw [downT, if_neg (by simp [h]), if_neg h1, if_neg h2]; rfl

set_option maxHeartbeats 1000000 in
set_option maxRecDepth 100000 in
theorem down_any (t : Tr) (cs : List Value) (pv : Value) (l : List ByteArray) (w0 w : World) (h0 : Sub w0 w) (hV : VRep w0 t cs) (hP : Reads w pv l) (hl : l.length ≤ 1000000) (hS : Hid (Sized l)) :
    Calls Tryz.prog 119 #[.agg cs.toArray, pv] w (DownPost w0 w (downT t l)) := by
  obtain ⟨i64, hi64, hz0, hz1, hz2⟩ := info_parts A64
  obtain ⟨a, c, rfl, hc, hA⟩ := hP
  obtain ⟨k0, x0, s0, an0, ln0, cn0, ai0, li0, ci0, rfl⟩ := vrep_five hV
  unfold five
  replace h0 := hid_of h0
  replace hV : Hid (VRep w0 t (five k0 x0 s0 (.slice an0 ln0 cn0) (.slice ai0 li0 ci0))) := hV
  replace hA : Hid (l = [] ∨ ∃ b o, a = some ⟨b, o, none⟩ ∧ b < w.heap.size ∧ ∀ j s, l[j]? = some s → w.cell? ⟨b, o + j, none⟩ = some (.string s)) := hA
  have hnew : Row5 (w.alloc (.cells #[.int .i64 k0, .int .i64 x0, .string s0, .slice an0 ln0 cn0, .slice ai0 li0 ci0] 28)) w.heap.size (.int .i64 k0) (.int .i64 x0) (.string s0) (.slice an0 ln0 cn0) (.slice ai0 li0 ci0) := row5_of (heap_alloc_new w _)
  go_enter Tryz.func119, Tryz.ntmps119
  go_wp2_with fail
  go_step3
  go_wp2_with fail
  go_step3
  go_wp2_with fail
  go_loopw [6, 16] (fun tv i wr => ∃ (q : Nat) (tv0 : Value) (ts : List Trn) (u : Tr) (k1 x1 : Int) (s1 : ByteArray) (an1 : Option Addr) (ln1 cn1 : Nat) (ai1 : Option Addr) (li1 ci1 : Nat), tv = tv0 ∧ i = .int .i64 q ∧ (q ≤ l.length ∧ ts.length = q) ∧ Hid (Below w.heap.size w wr) ∧ Row5 wr w.heap.size (.int .i64 k1) (.int .i64 x1) (.string s1) (.slice an1 ln1 cn1) (.slice ai1 li1 ci1) ∧ Hid (VRep w0 u (five k1 x1 s1 (.slice an1 ln1 cn1) (.slice ai1 li1 ci1))) ∧
      Hid (wr.ownsRow (w.heap.size + 1) 169 7 tv0 q (turnCells ts)) ∧ Hid (∀ tn ∈ ts, tn.Ok w0) ∧ Hid (downT t l = goOn ts (downT u (l.drop q)))) (fun _ i _ => l.length - (intOf i).toNat)
  case atStart => exact ⟨0, _, [], t, k0, x0, s0, an0, ln0, cn0, ai0, li0, ci0, rfl, rfl, ⟨Nat.zero_le _, rfl⟩, hid_of ((Below.refl _ w).alloc (Nat.le_refl _) _), hnew, hV, hid_of (World.ownsRow_nil _ _ _ _), hid_of (fun tn h => by cases h), hid_of (by unfold goOn; by_cases h : (downT t l).1 = 0 <;> simp [h, Prod.ext_iff])⟩
  case round =>
    clear hnew
    obtain ⟨q, tv, ts, u, k1, x1, s1, an1, ln1, cn1, ai1, li1, ci1, rfl, rfl, ⟨hq, hts⟩, hbel, h1, hU, hown, hok, hG⟩ := hrel
    obtain ⟨at0, ct0, rfl⟩ := ownsRow_slice hown.out
    by_cases hlt : q < l.length
    · have hd : decide ((q : Int) < (l.length : Int)) = true := by simp; omega
      obtain ⟨b, o, rfl, hbl, hA⟩ := hA.out.resolve_left (by intro e; subst e; simp at hlt)
      obtain ⟨x, hx⟩ : ∃ x, Hid (l[q]? = some x) := ⟨_, List.getElem?_eq_getElem hlt⟩
      have c1 : wr.cell? ⟨b, o + q, none⟩ = some (.string x) := (hbel.out.cell (p := ⟨b, o + q, none⟩) hbl).trans (hA q x hx.out)
      clear hA
      have hxs : x.size ≤ 9223372036854775806 := hS.out x (List.mem_of_getElem? hx.out)
      cases u with
      | node ku xu su nsu itsu =>
        obtain ⟨an, cn, ai, ci, xs, he, hcn, hci, hN, hI, hR⟩ := hU.out.parts
        obtain ⟨rfl, rfl, rfl, ⟨rfl, rfl, rfl⟩, rfl, rfl, rfl⟩ : k1 = ku ∧ x1 = xu ∧ s1 = su ∧ (an1 = an ∧ ln1 = nsu.length ∧ cn1 = cn) ∧ ai1 = ai ∧ li1 = itsu.length ∧ ci1 = ci := by simpa [five] using he
        clear he
        have hNr : Reads w0 (.slice an1 nsu.length cn1) nsu := by
          have := hU.out; unfold VRep at this
          obtain ⟨nm, a', c', he, hN, _⟩ := this
          obtain ⟨_, _, _, rfl, _⟩ : k1 = k1 ∧ x1 = x1 ∧ s1 = s1 ∧ Value.slice an1 nsu.length cn1 = nm ∧ True := by simp [five] at he; simp [he]
          exact hN
        have hpl := place_any k1 x1 s1 _ nsu ai1 itsu.length ci1 x wr (Reads.mono (h0.out.below hbel.out).cell (h0.out.below hbel.out).size hNr) hxs
        obtain ⟨⟨y0, -⟩, ⟨y1, -⟩, ⟨y2, -⟩, ⟨y3, -⟩, ⟨y4, -⟩⟩ := id h1
        replace hN := hid_of hN; replace hI := hid_of hI; replace hR := hid_of hR; replace hNr := hid_of hNr
        go_wp2_with fail
        refine hpl.mono ?_
        rintro e w1 ⟨rfl, hb⟩
        clear hpl c1 y0 y1 y2 y3 y4
        have h11 := h1.below hb
        have hbel1 : Hid (Below w.heap.size w w1) := hid_of (hbel.out.trans (hb.mono hbel.out.size))
        have hown1 : Hid (w1.ownsRow (w.heap.size + 1) 169 7 (.slice at0 q ct0) q (turnCells ts)) := hid_of (ownsRow_below hown.out hb)
        clear hb hown hbel h1
        obtain ⟨⟨y0, -⟩, ⟨y1, -⟩, ⟨y2, -⟩, ⟨y3, -⟩, ⟨y4, -⟩⟩ := id h11
        replace hG : Hid (downT t l = goOn ts (downT (.node k1 x1 s1 nsu itsu) (x :: l.drop (q + 1)))) := by rw [Hid, hG.out, drop_cons hx.out]
        cases hpb : placeB k1 nsu itsu.length x
        · have hfd := field4
          have hcn1 := hcn.1
          have hci1 := hci.1
          clear hR hI hN hNr hV
          by_cases h6 : k1 = 6
          · subst h6
            obtain ⟨n, hmk⟩ : ∃ n, Hid (n = (keepIts 6 nsu itsu).length) := ⟨_, rfl⟩
            have hD : Hid (downT t l = (0, ts.map Trn.st ++ [(.node 6 x1 s1 nsu itsu, x, n)])) := hid_of (hG.out.trans (goOn_new hpb (.inl rfl) hmk.out.symm))
            have hb6 := fun w => bare6b x1 s1 an1 nsu cn1 ai1 itsu ci1 hcn1 hci1 w
            rw [← hmk.out] at hb6
            clear hpb hG
            replace hcn := hid_of hcn; replace hci := hid_of hci
            generalize placeI 6 nsu x = z
            go_wp2_with (first | (go_at_call 168; refine (index_any x hxs _).mono ?_; rintro e w2 ⟨rfl, hb2⟩; have h12 := h11.below hb2; have hbel2 : Hid (Below w.heap.size w w2) := hid_of (hbel1.out.trans (hb2.mono hbel1.out.size)); have hown2 : Hid (w2.ownsRow (w.heap.size + 1) 169 7 (.slice at0 q ct0) q (turnCells ts)) := hid_of (ownsRow_below hown1.out hb2); clear hb2 y0 y1 y2 y3 y4; obtain ⟨⟨y0, -⟩, ⟨y1, -⟩, ⟨y2, -⟩, ⟨y3, -⟩, ⟨y4, -⟩⟩ := id h12; unfold idxV; cases idx x <;> dsimp only) | (go_at_call 169; refine (hb6 _).mono ?_; rintro e w3 ⟨rfl, hb3⟩; have h13 := h12.below hb3; have hbel3 : Hid (Below w.heap.size w w3) := hid_of (hbel2.out.trans (hb3.mono hbel2.out.size)); have hown3 : Hid (w3.ownsRow (w.heap.size + 1) 169 7 (.slice at0 q ct0) q (turnCells ts)) := hid_of (ownsRow_below hown2.out hb3); clear hb3 y0 y1 y2 y3 y4; obtain ⟨⟨y0, -⟩, ⟨y1, -⟩, ⟨y2, -⟩, ⟨y3, -⟩, ⟨y4, -⟩⟩ := id h13) | (at_builtin; refine wpList_append_lies _ rfl _ _ 164 rfl (w.heap.size + 1) 169 i64 _ 7 104 Tryz.underlying164 hi64 hz0 hz1 hz2 rfl (by decide) _ q (turnCells ts) rfl (hown3.out.alloc _) _ 1 1 [.int .i64 6, .int .i64 x1, .string s1, .slice an1 nsu.length cn1, .slice ai1 itsu.length ci1, .string x, .int .i64 n] rfl rfl (World.news_of_block (heap_alloc_new _ _)) (by simp [Value.oneCell']) (by decide) (by unfold maxLen; omega) (by omega) (by have h2 := h13.lt; simp only [World.size_alloc]; omega) _ rfl ?_; intro g cap w5 hown5 hgrow5 hat5 hlt5; have hB5 : Hid (Below w.heap.size w w5) := hid_of ((hbel3.out.alloc hbel3.out.size _).trans (grown_below hgrow5 (by have h2 := h13.lt; simp only [World.size_alloc]; omega) (fun g hg => by have := (ownsRow_ge hown3.out hg).1; omega))); replace hown5 := hid_of hown5; clear hgrow5 hat5))
            all_goals
              rw [Exit.noGoto_ret]
              go_ret2
              rw [hD.out]
              refine ⟨hB5.out, .inr ⟨rfl, _, ts ++ [⟨6, x1, s1, nsu, itsu, an1, cn1, ai1, ci1, x, n⟩], rfl, ?_, by simp [Trn.st, Trn.tr], fun tn h => ?_⟩⟩
              · rw [turnCells_snoc, List.length_append, hts]
                exact ownsRow_lo hown5.out (by omega)
              · rcases List.mem_append.1 h with h | h
                · exact hok.out tn h
                · rw [List.mem_singleton.1 h]; exact ⟨.inr rfl, Nat.le_of_eq hmk.out, hU.out⟩
          · have hk6 : (k1 == 6) = false := by simpa using h6
            by_cases h5 : k1 = 5
            · subst h5
              have hpi : placeI 5 nsu x = (((idx x).getD 0 : Nat) : Int) := by unfold placeI; rw [if_neg (by decide), if_pos rfl]
              rw [hpi]
              clear hpi
              have hb5 := fun w => bare5b x1 s1 an1 nsu.length cn1 ai1 itsu.length ci1 w
              have hmk : Hid (itsu.length = (keepIts 5 nsu itsu).length) := hid_of (by unfold keepIts; rw [if_neg (by decide)])
              cases hix : idx x with
              | none =>
                have hD : Hid (downT t l = (21, [])) := hid_of (hG.out.trans (goOn_21 hpb h6 (.inr hix)))
                clear hpb hG
                go_wp2_with (first | (go_at_call 168; refine (index_any x hxs _).mono ?_; rintro e w2 ⟨rfl, hb2⟩; have h12 := h11.below hb2; have hbel2 : Hid (Below w.heap.size w w2) := hid_of (hbel1.out.trans (hb2.mono hbel1.out.size)); have hown2 : Hid (w2.ownsRow (w.heap.size + 1) 169 7 (.slice at0 q ct0) q (turnCells ts)) := hid_of (ownsRow_below hown1.out hb2); clear hb2 y0 y1 y2 y3 y4; obtain ⟨⟨y0, -⟩, ⟨y1, -⟩, ⟨y2, -⟩, ⟨y3, -⟩, ⟨y4, -⟩⟩ := id h12; unfold idxV; rw [hix]; dsimp only) | (go_at_call 169; refine (hb5 _).mono ?_; rintro e w3 ⟨rfl, hb3⟩; have h13 := h12.below hb3; have hbel3 : Hid (Below w.heap.size w w3) := hid_of (hbel2.out.trans (hb3.mono hbel2.out.size)); have hown3 : Hid (w3.ownsRow (w.heap.size + 1) 169 7 (.slice at0 q ct0) q (turnCells ts)) := hid_of (ownsRow_below hown2.out hb3); clear hb3 y0 y1 y2 y3 y4; obtain ⟨⟨y0, -⟩, ⟨y1, -⟩, ⟨y2, -⟩, ⟨y3, -⟩, ⟨y4, -⟩⟩ := id h13))
                rw [Exit.noGoto_ret]
                go_ret2
                rw [hD.out]
                exact ⟨hbel3.out, .inl ⟨by decide, rfl⟩⟩
              | some z =>
                by_cases hz : z = itsu.length
                · have hD : Hid (downT t l = (0, ts.map Trn.st ++ [(.node 5 x1 s1 nsu itsu, x, itsu.length)])) := hid_of (hG.out.trans (goOn_new hpb (.inr ⟨rfl, by rw [hix, hz]; rfl⟩) hmk.out.symm))
                  subst hz
                  clear hpb hG
                  replace hcn := hid_of hcn; replace hci := hid_of hci
                  go_wp2_with (first | (go_at_call 168; refine (index_any x hxs _).mono ?_; rintro e w2 ⟨rfl, hb2⟩; have h12 := h11.below hb2; have hbel2 : Hid (Below w.heap.size w w2) := hid_of (hbel1.out.trans (hb2.mono hbel1.out.size)); have hown2 : Hid (w2.ownsRow (w.heap.size + 1) 169 7 (.slice at0 q ct0) q (turnCells ts)) := hid_of (ownsRow_below hown1.out hb2); clear hb2 y0 y1 y2 y3 y4; obtain ⟨⟨y0, -⟩, ⟨y1, -⟩, ⟨y2, -⟩, ⟨y3, -⟩, ⟨y4, -⟩⟩ := id h12; unfold idxV; rw [hix]; dsimp only) | (go_at_call 169; refine (hb5 _).mono ?_; rintro e w3 ⟨rfl, hb3⟩; have h13 := h12.below hb3; have hbel3 : Hid (Below w.heap.size w w3) := hid_of (hbel2.out.trans (hb3.mono hbel2.out.size)); have hown3 : Hid (w3.ownsRow (w.heap.size + 1) 169 7 (.slice at0 q ct0) q (turnCells ts)) := hid_of (ownsRow_below hown2.out hb3); clear hb3 y0 y1 y2 y3 y4; obtain ⟨⟨y0, -⟩, ⟨y1, -⟩, ⟨y2, -⟩, ⟨y3, -⟩, ⟨y4, -⟩⟩ := id h13) | (at_builtin; refine wpList_append_lies _ rfl _ _ 164 rfl (w.heap.size + 1) 169 i64 _ 7 104 Tryz.underlying164 hi64 hz0 hz1 hz2 rfl (by decide) _ q (turnCells ts) rfl (hown3.out.alloc _) _ 1 1 [.int .i64 5, .int .i64 x1, .string s1, .slice an1 nsu.length cn1, .slice ai1 itsu.length ci1, .string x, .int .i64 itsu.length] rfl rfl (World.news_of_block (heap_alloc_new _ _)) (by simp [Value.oneCell']) (by decide) (by unfold maxLen; omega) (by omega) (by have h2 := h13.lt; simp only [World.size_alloc]; omega) _ rfl ?_; intro g cap w5 hown5 hgrow5 hat5 hlt5; have hB5 : Hid (Below w.heap.size w w5) := hid_of ((hbel3.out.alloc hbel3.out.size _).trans (grown_below hgrow5 (by have h2 := h13.lt; simp only [World.size_alloc]; omega) (fun g hg => by have := (ownsRow_ge hown3.out hg).1; omega))); replace hown5 := hid_of hown5; clear hgrow5 hat5))
                  rw [Exit.noGoto_ret]
                  go_ret2
                  rw [hD.out]
                  refine ⟨hB5.out, .inr ⟨rfl, _, ts ++ [⟨5, x1, s1, nsu, itsu, an1, cn1, ai1, ci1, x, itsu.length⟩], rfl, ?_, by simp [Trn.st, Trn.tr], fun tn h => ?_⟩⟩
                  · rw [turnCells_snoc, List.length_append, hts]
                    exact ownsRow_lo hown5.out (by omega)
                  · rcases List.mem_append.1 h with h | h
                    · exact hok.out tn h
                    · rw [List.mem_singleton.1 h]; exact ⟨.inl rfl, Nat.le_of_eq hmk.out, hU.out⟩
                · have hD : Hid (downT t l = (22, [])) := hid_of (hG.out.trans (goOn_22 hpb rfl hix hz))
                  have hzd : ((z : Int) == (itsu.length : Int)) = false := by simp; omega
                  clear hpb hG
                  go_wp2_with (first | (go_at_call 168; refine (index_any x hxs _).mono ?_; rintro e w2 ⟨rfl, hb2⟩; have h12 := h11.below hb2; have hbel2 : Hid (Below w.heap.size w w2) := hid_of (hbel1.out.trans (hb2.mono hbel1.out.size)); have hown2 : Hid (w2.ownsRow (w.heap.size + 1) 169 7 (.slice at0 q ct0) q (turnCells ts)) := hid_of (ownsRow_below hown1.out hb2); clear hb2 y0 y1 y2 y3 y4; obtain ⟨⟨y0, -⟩, ⟨y1, -⟩, ⟨y2, -⟩, ⟨y3, -⟩, ⟨y4, -⟩⟩ := id h12; unfold idxV; rw [hix]; dsimp only) | (go_at_call 169; refine (hb5 _).mono ?_; rintro e w3 ⟨rfl, hb3⟩; have h13 := h12.below hb3; have hbel3 : Hid (Below w.heap.size w w3) := hid_of (hbel2.out.trans (hb3.mono hbel2.out.size)); have hown3 : Hid (w3.ownsRow (w.heap.size + 1) 169 7 (.slice at0 q ct0) q (turnCells ts)) := hid_of (ownsRow_below hown2.out hb3); clear hb3 y0 y1 y2 y3 y4; obtain ⟨⟨y0, -⟩, ⟨y1, -⟩, ⟨y2, -⟩, ⟨y3, -⟩, ⟨y4, -⟩⟩ := id h13))
                  rw [Exit.noGoto_ret]
                  go_ret2
                  rw [hD.out]
                  exact ⟨hbel3.out, .inl ⟨by decide, rfl⟩⟩
            · have hk5 : (k1 == 5) = false := by simpa using h5
              have hD : Hid (downT t l = (21, [])) := hid_of (hG.out.trans (goOn_21 hpb h6 (.inl h5)))
              have hbN := fun w => bareNb k1 x1 s1 an1 nsu.length cn1 ai1 itsu.length ci1 h5 h6 w
              clear hpb hG
              generalize placeI k1 nsu x = z
              go_wp2_with (first | (go_at_call 168; refine (index_any x hxs _).mono ?_; rintro e w2 ⟨rfl, hb2⟩; have h12 := h11.below hb2; have hbel2 : Hid (Below w.heap.size w w2) := hid_of (hbel1.out.trans (hb2.mono hbel1.out.size)); have hown2 : Hid (w2.ownsRow (w.heap.size + 1) 169 7 (.slice at0 q ct0) q (turnCells ts)) := hid_of (ownsRow_below hown1.out hb2); clear hb2 y0 y1 y2 y3 y4; obtain ⟨⟨y0, -⟩, ⟨y1, -⟩, ⟨y2, -⟩, ⟨y3, -⟩, ⟨y4, -⟩⟩ := id h12; unfold idxV; cases idx x <;> dsimp only) | (go_at_call 169; refine (hbN _).mono ?_; rintro e w3 ⟨rfl, hb3⟩; have h13 := h12.below hb3; have hbel3 : Hid (Below w.heap.size w w3) := hid_of (hbel2.out.trans (hb3.mono hbel2.out.size)); have hown3 : Hid (w3.ownsRow (w.heap.size + 1) 169 7 (.slice at0 q ct0) q (turnCells ts)) := hid_of (ownsRow_below hown2.out hb3); clear hb3 y0 y1 y2 y3 y4; obtain ⟨⟨y0, -⟩, ⟨y1, -⟩, ⟨y2, -⟩, ⟨y3, -⟩, ⟨y4, -⟩⟩ := id h13))
              all_goals
                rw [Exit.noGoto_ret]
                go_ret2
                rw [hD.out]
                exact ⟨hbel3.out, .inl ⟨by decide, rfl⟩⟩
        · obtain ⟨i, hi, him⟩ := placeB_true hpb
          obtain ⟨hk56, hik⟩ := place_keep (its := itsu) hpb hi
          obtain ⟨u', hu'⟩ : ∃ u', itsu[i]? = some u' := ⟨_, List.getElem?_eq_getElem him⟩
          obtain ⟨b2, o2, rfl, hb2, cs', hcs', hVu⟩ : ∃ b2 o2, ai1 = some ⟨b2, o2, none⟩ ∧ b2 < w0.heap.size ∧ ∃ cs', CellsAt w0 b2 (o2 + i * 5) cs' ∧ VRep w0 u' cs' := by
            have hU' := hU.out
            unfold VRep at hU'
            obtain ⟨nm, a', c', he, _, _, hI'⟩ := hU'
            obtain rfl : ai1 = a' := by simp [five] at he; exact he.2.1
            obtain ⟨b2, o2, e, hb2, hI'⟩ := hI'.resolve_left (by intro e; subst e; simp at him)
            exact ⟨b2, o2, e, hb2, VRepL.at itsu o2 i u' hI' hu'⟩
          obtain ⟨k2, x2, s2, an2, ln2, cn2, ai2, li2, ci2, rfl⟩ := vrep_five hVu
          have hG2 : Hid (downT t l = goOn (ts ++ [⟨k1, x1, s1, nsu, itsu, an1, cn1, some ⟨b2, o2, none⟩, ci1, x, i⟩]) (downT u' (l.drop (q + 1)))) := hid_of (hG.out.trans (goOn_there _ hpb hi hu' rfl))
          have hok2 : Hid (∀ tn ∈ ts ++ [⟨k1, x1, s1, nsu, itsu, an1, cn1, some ⟨b2, o2, none⟩, ci1, x, i⟩], tn.Ok w0) := hid_of (fun tn h => by
            rcases List.mem_append.1 h with h | h
            · exact hok.out tn h
            · rw [List.mem_singleton.1 h]; exact ⟨hk56, Nat.le_of_lt hik, hU.out⟩)
          replace hcs' := hid_of hcs'; replace hVu := hid_of hVu
          rw [hi]
          clear hi hpb hG hok hik hk56 hR hI hN hNr hV hu'
          have i1 : (i : Int) < (itsu.length : Int) := by omega
          have i2 : (0 : Int) ≤ (i : Int) := by omega
          go_wp2_with (at_builtin; refine wpList_append_lies _ rfl _ _ 164 rfl (w.heap.size + 1) 169 i64 _ 7 104 Tryz.underlying164 hi64 hz0 hz1 hz2 rfl (by decide) _ q (turnCells ts) rfl (hown1.out.alloc _) _ 1 1 [.int .i64 k1, .int .i64 x1, .string s1, .slice an1 nsu.length cn1, .slice (some ⟨b2, o2, none⟩) itsu.length ci1, .string x, .int .i64 i] rfl rfl (World.news_of_block (heap_alloc_new _ _)) (by simp [Value.oneCell']) (by decide) (by unfold maxLen; omega) (by omega) (by have h2 := h11.lt; simp only [World.size_alloc]; omega) _ rfl ?_; intro g cap w5 hown5 hgrow5 hat5 hlt5; have hB5 : Hid (Below w.heap.size w w5) := hid_of ((hbel1.out.alloc hbel1.out.size _).trans (grown_below hgrow5 (by have h2 := h11.lt; simp only [World.size_alloc]; omega) (fun g hg => by have := (ownsRow_ge hown1.out hg).1; omega))); have h15 := (h11.alloc (.cells #[.int .i64 k1, .int .i64 x1, .string s1, .slice an1 nsu.length cn1, .slice (some ⟨b2, o2, none⟩) itsu.length ci1, .string x, .int .i64 i] 169)).far (grown_far hgrow5 (by have h2 := h11.lt; simp only [World.size_alloc]; omega) (fun e => by have := (ownsRow_ge hown1.out e.symm).1; omega)); obtain ⟨⟨v0, u0⟩, ⟨v1, u1⟩, ⟨v2, u2⟩, ⟨v3, u3⟩, ⟨v4, u4⟩⟩ := id h15; have h05 : Hid (Sub w0 w5) := hid_of (h0.out.below hB5.out); have n0 : w5.cell? ⟨b2, o2 + i * 5, none⟩ = some (.int .i64 k2) := h05.out.cell ⟨b2, o2 + i * 5, none⟩ _ (hcs'.out 0 _ rfl); have n1 : w5.cell? ⟨b2, o2 + i * 5 + 1, none⟩ = some (.int .i64 x2) := h05.out.cell ⟨b2, o2 + i * 5 + 1, none⟩ _ (hcs'.out 1 _ rfl); have n2 : w5.cell? ⟨b2, o2 + i * 5 + 2, none⟩ = some (.string s2) := h05.out.cell ⟨b2, o2 + i * 5 + 2, none⟩ _ (hcs'.out 2 _ rfl); have n3 : w5.cell? ⟨b2, o2 + i * 5 + 3, none⟩ = some (.slice an2 ln2 cn2) := h05.out.cell ⟨b2, o2 + i * 5 + 3, none⟩ _ (hcs'.out 3 _ rfl); have n4 : w5.cell? ⟨b2, o2 + i * 5 + 4, none⟩ = some (.slice ai2 li2 ci2) := h05.out.cell ⟨b2, o2 + i * 5 + 4, none⟩ _ (hcs'.out 4 _ rfl); replace hown5 := hid_of hown5; replace hgrow5 := hid_of hgrow5; replace hat5 := hid_of hat5)
          have hgb : g ≠ w.heap.size := by
            have := (ownsRow_ge hown5.out (g := g) rfl).1
            omega
          go_roundw
          case rel =>
            refine ⟨q + 1, _, ts ++ [⟨k1, x1, s1, nsu, itsu, an1, cn1, some ⟨b2, o2, none⟩, ci1, x, i⟩], u', k2, x2, s2, an2, ln2, cn2, ai2, li2, ci2, rfl, by simp, ⟨by omega, by simp [hts]⟩, hid_of (hB5.out.trans (put5_below (Nat.le_refl _) _ _ _ _ _)), h15.put _ _ _ _ _, hVu, hid_of ?_, hok2, hG2⟩
            rw [turnCells_snoc]
            exact ownsRow_keep hown5.out (fun g0 e => put5_far _ _ _ _ _ (by cases e; exact hgb))
          case measure => simp [intOf]; omega
    · have hd : decide ((q : Int) < (l.length : Int)) = false := by simp; omega
      obtain ⟨⟨y0, -⟩, ⟨y1, -⟩, ⟨y2, -⟩, ⟨y3, -⟩, ⟨y4, -⟩⟩ := id h1
      go_wp2_with fail
      rw [Exit.noGoto_ret]
      go_ret2
      have hD : downT t l = (0, ts.map Trn.st) := by rw [hG.out, List.drop_of_length_le (by omega)]; cases u; simp [downT, goOn]
      rw [hD]
      exact ⟨hbel.out, .inr ⟨rfl, _, ts, rfl, ownsRow_lo (by rw [hts]; exact hown.out) (by omega), rfl, hok.out⟩⟩
end Go.Proofs.YthgnkhpomhcdkaaGreatDoor
/-! Taken over from r4b/S11. -/
namespace Go.Proofs.YthgnkhpomhcdkaaGreatDoor
open Go Go.RowKit Dp

def upS (l : List (Tr × ByteArray × Nat)) (X : Tr) : Tr := l.foldr (fun st X => withT st.1.kind st.1.names st.1.items st.2.1 st.2.2 X) X
def nestS (l : List ByteArray) (X : Tr) : Tr := l.foldr (fun s X => .node 6 0 ⟨#[]⟩ [s] [X]) X
/-- What Set answers. -/
def setT (t : Tr) (l : List ByteArray) (X : Tr) : Tr := upS (downT t l).2 (nestS (l.drop (downT t l).2.length) X)
theorem backs_rev (n : Nat) : backs n n = (List.range n).reverse := by
  unfold backs
  apply List.ext_getElem
  · simp
  · intro i h1 h2
    simp
theorem range_get {α : Type} (l : List α) (d : α) : (List.range l.length).map (fun i => l.getD i d) = l := by
  apply List.ext_getElem
  · simp
  · intro i h1 h2
    simp [List.getD_eq_getElem?_getD, h2]
theorem ups_list (ts : List Trn) (d : Trn) (X : Tr) : ups (fun i => ts.getD i d) (backs ts.length ts.length) X = upS (ts.map Trn.st) X := by
  unfold ups upS
  rw [backs_rev, List.foldl_reverse, List.foldr_map]
  conv => rhs; rw [← range_get ts d]
  rw [List.foldr_map]
  rfl
theorem nests_list (l : List ByteArray) (d : ByteArray) (X : Tr) : nests (fun i => l.getD i d) (backs l.length l.length) X = nestS l X := by
  unfold nests nestS
  rw [backs_rev, List.foldl_reverse]
  conv => rhs; rw [← range_get l d]
  rw [List.foldr_map]
/-- The way down is no longer than the path. -/
theorem downT_len : (l : List ByteArray) → (t : Tr) → (downT t l).2.length ≤ l.length
  | [], t => by cases t; simp [downT]
  | s :: r, t => by
    rw [downT]
    split
    · split
      · simp
      · rename_i u _
        have := downT_len r u
        split
        · simp only [List.length_cons]; omega
        · simp only [List.length_cons]; omega
    · split
      · simp
      · split <;> simp
theorem turn_cells {ts : List Trn} {i : Nat} {t : Trn} (h : ts[i]? = some t) : ∀ j u, t.cells[j]? = some u → (turnCells ts)[i * 7 + j]? = some u := by
  induction ts generalizing i with
  | nil => simp at h
  | cons a ts ih =>
    intro j u hj
    have ha : a.cells.length = 7 := rfl
    have hj7 : j < 7 := (List.getElem?_eq_some_iff.1 hj).1
    cases i with
    | zero =>
      have : a = t := by simpa using h
      subst this
      simp only [turnCells, List.flatMap_cons, Nat.zero_mul, Nat.zero_add]
      rw [List.getElem?_append_left (by omega)]
      exact hj
    | succ i =>
      have := ih (i := i) (by simpa using h) j u hj
      simp only [turnCells, List.flatMap_cons] at *
      rw [List.getElem?_append_right (by omega), ha, show (i + 1) * 7 + j - 7 = i * 7 + j by omega]
      exact this
/-- up, of the turns that down answers. -/
theorem up_turns (w0 w : World) (h0 : Sub w0 w) (ts : List Trn) (tv : Value) (lo : Nat) (hrow : w.ownsRow lo 169 7 tv ts.length (turnCells ts)) (hok : ∀ tn ∈ ts, tn.Ok w0 ∧ (tn.its.length + 1) * 80 ≤ 140737488355328) (k1 x1 : Int) (s1 : ByteArray) (an1 : Option Addr) (ln1 cn1 : Nat) (ai1 : Option Addr) (li1 ci1 : Nat) (X : Tr) (S : Nat → Prop) (hS : ∀ k, S k → k < w.heap.size) (hS0 : ∀ p u, w0.cell? p = some u → S p.block) (hX : Seen w S X (five k1 x1 s1 (.slice an1 ln1 cn1) (.slice ai1 li1 ci1))) :
    Calls Tryz.prog 120 #[tv, .agg #[.int .i64 k1, .int .i64 x1, .string s1, .slice an1 ln1 cn1, .slice ai1 li1 ci1]] w fun e w' => Below w.heap.size w w' ∧ ∃ cs, e = .returned (.agg cs.toArray) ∧ Seen w' (fun k => S k ∨ w.heap.size + 1 < k) (upS (ts.map Trn.st) X) cs := by
  obtain ⟨a, c, rfl⟩ := ownsRow_slice hrow
  have hmax : ts.length ≤ 9223372036854775807 := by
    rcases hrow.2 with ⟨_, h⟩ | ⟨g, cap, cur, hv, _, _, h1, h2, _⟩
    · omega
    · unfold maxLen at h2; omega
  cases ts with
  | nil =>
    have := up_any w0 w h0 0 c (by omega) a (fun _ => ⟨0, 0, ⟨#[]⟩, [], [], none, 0, none, 0, ⟨#[]⟩, 0⟩) (fun h => absurd h (by omega)) (fun i h => absurd h (by omega)) k1 x1 s1 an1 ln1 cn1 ai1 li1 ci1 X S hS hS0 hX
    exact this
  | cons t0 ts =>
    have hd : ∀ i, ∃ tn ∈ t0 :: ts, (t0 :: ts).getD i t0 = tn := fun i => by
      rcases Nat.lt_or_ge i (t0 :: ts).length with h | h
      · exact ⟨_, List.getElem_mem h, by rw [List.getD_eq_getElem?_getD, List.getElem?_eq_getElem h]; rfl⟩
      · exact ⟨t0, List.mem_cons_self, by rw [List.getD_eq_getElem?_getD, List.getElem?_eq_none h]; rfl⟩
    have := up_any w0 w h0 (t0 :: ts).length c hmax a (fun i => (t0 :: ts).getD i t0) (fun _ i => by
      obtain ⟨tn, hm, e⟩ := hd i
      show Trn.Good w0 ((t0 :: ts).getD i t0)
      rw [e]
      obtain ⟨⟨h1, h2, h3⟩, h4⟩ := hok tn hm
      exact ⟨h1, h2, h4, h3⟩) (fun i hi => by
      rcases hrow.2 with ⟨_, h⟩ | ⟨g, cap, cur, hv, _⟩
      · simp at h
      · injection hv with e1 e2 e3
        subst e1; subst e3
        refine ⟨g, 0, rfl, fun j u hj => ?_⟩
        rw [Nat.zero_add]
        exact row_cell hrow _ u (turn_cells (t := (t0 :: ts).getD i t0) (by rw [List.getD_eq_getElem?_getD, List.getElem?_eq_getElem hi]; rfl) j u hj)) k1 x1 s1 an1 ln1 cn1 ai1 li1 ci1 X S hS hS0 hX
    rw [ups_list] at this
    exact this
end Go.Proofs.YthgnkhpomhcdkaaGreatDoor
/-! dotpath.Set, of values that lie in older memory: what it answers lies there and in new memory (GS12's text, with the memory told). -/
namespace Go.Proofs.YthgnkhpomhcdkaaGreatDoor
open Go Go.RowKit Dp

/-- within, of what is left of a path. -/
theorem within_rest (w : World) (a : Option Addr) (c : Nat) (r : List ByteArray) (hr : r.length ≤ 9223372036854775807) (hR : r = [] ∨ ∃ b o, a = some ⟨b, o, none⟩ ∧ ∀ j s, r[j]? = some s → w.cell? ⟨b, o + j, none⟩ = some (.string s)) (k1 x1 : Int) (s1 : ByteArray) (an1 : Option Addr) (ln1 cn1 : Nat) (ai1 : Option Addr) (li1 ci1 : Nat) (X : Tr) (S : Nat → Prop) (hS : ∀ k, S k → k < w.heap.size) (hX : Seen w S X (five k1 x1 s1 (.slice an1 ln1 cn1) (.slice ai1 li1 ci1))) :
    Calls Tryz.prog 167 #[.slice a r.length c, .agg #[.int .i64 k1, .int .i64 x1, .string s1, .slice an1 ln1 cn1, .slice ai1 li1 ci1]] w fun e w' => Below w.heap.size w w' ∧ ∃ cs, e = .returned (.agg cs.toArray) ∧ Seen w' (fun k => S k ∨ w.heap.size + 1 < k) (nestS r X) cs := by
  have := within_any w r.length c hr a (fun i => r.getD i ⟨#[]⟩) (fun i hi => by
    rcases hR with rfl | ⟨b, o, e, h⟩
    · simp at hi
    · exact ⟨b, o, e, h i _ (by simp [List.getD_eq_getElem?_getD, hi])⟩) k1 x1 s1 an1 ln1 cn1 ai1 li1 ci1 X S hS hX
  rw [nests_list] at this
  exact this
theorem seen_in' {W : World} {S : Nat → Prop} {m : Nat} {t : Tr} {cs : List Value} (h : Seen W (fun k => S k ∨ m < k) t cs) : Seen W (fun k => S k ∨ (m < k ∧ k < W.heap.size)) t cs := fun W' a => h W' ⟨a.1, fun p u hp hc => a.2 p u (hp.imp id (fun h => ⟨h, cell_lt hc⟩)) hc⟩
/-- What Set answers, of values that lie in w0: it lies there and in new memory. -/
def SetSeen (S : Nat → Prop) (w : World) (d : Int) (R : Tr) (e : Ending) (w' : World) : Prop :=
  Below w.heap.size w w' ∧ ((d ≠ 0 ∧ e = .returned (.tuple #[zeroV, .int .i64 d])) ∨ (d = 0 ∧ ∃ cs, e = .returned (.tuple #[.agg cs.toArray, .int .i64 0]) ∧ Seen w' (fun k => S k ∨ w.heap.size ≤ k) R cs))

set_option maxHeartbeats 1000000 in
set_option maxRecDepth 100000 in
theorem set_sub (t X : Tr) (cs xs : List Value) (pv : Value) (l : List ByteArray) (w0 w : World) (h0 : Sub w0 w) (hV : VRep w0 t cs) (S : Nat → Prop) (hSw : ∀ k, S k → k < w.heap.size) (hS0 : ∀ p u, w0.cell? p = some u → S p.block) (hX : Seen w S X xs) (hP : Reads w pv l) (hl : l.length ≤ 1000000) (hS : Hid (Sized l)) (hb : ∀ st ∈ (downT t l).2, (st.1.items.length + 1) * 80 ≤ 140737488355328) :
    Calls Tryz.prog 118 #[.agg cs.toArray, pv, .agg xs.toArray] w (SetSeen S w (downT t l).1 (setT t l X)) := by
  have h00 := h0.size
  obtain ⟨a, c, rfl, hc, hA⟩ := id hP
  obtain ⟨k0, x0, s0, an0, ln0, cn0, ai0, li0, ci0, rfl⟩ := vrep_five hV
  obtain ⟨k5, x5, tx5, an5, ln5, cn5, ai5, li5, ci5, rfl⟩ := vrep_five hX.rep
  have hB0 : ∀ o1 o2 o3, Below w.heap.size w (((w.alloc o1).alloc o2).alloc o3) := fun o1 o2 o3 => (((Below.refl _ w).alloc (Nat.le_refl _) o1).alloc (by simp) o2).alloc (by simp; omega) o3
  have hdn := fun p1 p2 p3 => down_any t _ _ l w0 (((w.alloc p1).alloc p2).alloc p3) (h0.below (hB0 p1 p2 p3)) hV (hP.keep (hB0 p1 p2 p3)) hl hS
  unfold five at *
  have hn2 : ∀ o1 o2 o3, (((w.alloc o1).alloc o2).alloc o3).heap[w.heap.size + 1]? = some o2 := fun o1 o2 o3 => by
    rw [Below.heap_alloc _ _ _ (by simp)]; exact new2 w o1 o2
  have hn3 : ∀ o1 o2 o3, (((w.alloc o1).alloc o2).alloc o3).heap[w.heap.size + 1 + 1]? = some o3 := fun o1 o2 o3 => by
    have := heap_alloc_new ((w.alloc o1).alloc o2) o3
    rw [World.size_alloc, World.size_alloc] at this
    exact this
  obtain ⟨d, hd⟩ : ∃ d, Hid ((downT t l) = d) := ⟨_, rfl⟩
  rw [hd.out] at hdn hb ⊢
  replace hV := hid_of hV; replace hX := hid_of hX; replace hA := hid_of hA; replace hP := hid_of hP; replace hb := hid_of hb
  go_enter Tryz.func118, Tryz.ntmps118
  go_wp2_with fail
  refine (hdn _ _ _).mono ?_
  rintro e w4 ⟨hb4, ⟨hd0, rfl⟩ | ⟨hd0, tv, ts, rfl, hown, hts, hok⟩⟩
  · have hRs : w4.heap[w.heap.size + 1 + 1]? = _ := (hb4.block _ (by simp)).trans (hn3 _ _ _)
    have hB4 : Hid (Below w.heap.size w w4) := hid_of ((hB0 _ _ _).trans (hb4.mono (by simp; omega)))
    clear hb4 hdn hB0 hn2 hn3
    obtain ⟨z0, z1, z2, z3, z4, zf⟩ := row_cells hRs
    have g0 := zf 0; have g1 := zf 1; have g2 := zf 2; have g3 := zf 3; have g4 := zf 4
    clear zf
    have hdd : (d.1 == 0) = false := by simpa using hd0
    replace hRs := hid_of hRs
    go_wp2_with fail
    have hr := put5_cells hRs.out (.int .i64 0) (.int .i64 0) (.string ⟨#[]⟩) (.slice none 0 0) (.slice none 0 0)
    have r0 := hr 0; have r1 := hr 1; have r2 := hr 2; have r3 := hr 3; have r4 := hr 4
    clear hr
    refine bodyPost_ret (v := .tuple #[zeroV, .int .i64 d.1]) (by simp [results, Tryz.results118, go_sem, r0, r1, r2, r3, r4, zeroV]) rfl ?_
    exact ⟨hB4.out.trans (put5_below (by omega) _ _ _ _ _), .inl ⟨hd0, rfl⟩⟩
  · have hX4 : Row5 w4 (w.heap.size + 1) (.int .i64 k5) (.int .i64 x5) (.string tx5) (.slice an5 ln5 cn5) (.slice ai5 li5 ci5) := row5_of ((hb4.block _ (by simp)).trans (hn2 _ _ _))
    have hRs : Row5 w4 (w.heap.size + 1 + 1) (.int .i64 0) (.int .i64 0) (.string ⟨#[]⟩) (.slice none 0 0) (.slice none 0 0) := row5_of ((hb4.block _ (by simp)).trans (hn3 _ _ _))
    have hB4 : Below w.heap.size w w4 := (hB0 _ _ _).trans (hb4.mono (by simp; omega))
    have hsz : w.heap.size + 3 ≤ w4.heap.size := by have := hb4.size; simp at this; omega
    clear hdn hB0 hn2 hn3 hb4
    have hlen : ts.length ≤ l.length := by have := downT_len l t; rw [hd.out, ← hts] at this; simpa using this
    have hlen2 : (l.drop ts.length).length = l.length - ts.length := by simp
    have hset : Hid (setT t l X = upS (ts.map Trn.st) (nestS (l.drop ts.length) X)) := hid_of (by unfold setT; rw [hd.out, ← hts, List.length_map])
    have hok2 : ∀ tn ∈ ts, tn.Ok w0 ∧ (tn.its.length + 1) * 80 ≤ 140737488355328 := fun tn h => ⟨hok tn h, by
      have := hb.out tn.st (by rw [← hts]; exact List.mem_map_of_mem h)
      exact this⟩
    obtain ⟨at0, ct0, rfl⟩ := ownsRow_slice hown
    obtain ⟨⟨x0', -⟩, ⟨x1', -⟩, ⟨x2', -⟩, ⟨x3', -⟩, ⟨x4', -⟩⟩ := id hX4
    have hV4 : Seen w4.drew S X _ := (hX.out.keep hB4).keep (below_drew (Below.refl _ _))
    have hdd : (d.1 == 0) = true := by simp [hd0]
    rw [hd0]
    clear hdd hok hts
    replace hd0 := hid_of hd0
    replace hown := hid_of hown; replace hok2 := hid_of hok2
    have e1 : (ts.length : Int) ≤ (l.length : Int) := by omega
    have e2 : (ts.length : Int) ≤ (c : Int) := by omega
    have e3 : (l.length : Int) ≤ (c : Int) := by omega
    have e4 : (0 : Int) ≤ (ts.length : Int) := by omega
    have hS4 : ∀ k, S k → k < w4.drew.heap.size := fun k hk => by
      have := hSw k hk
      show k < w4.heap.size; omega
    replace hB4 := hid_of hB4; replace hsz := hid_of hsz; replace hRs := hid_of hRs
    by_cases hr : l.length = ts.length
    · have hnil : l.drop ts.length = [] := List.drop_eq_nil_of_le (by omega)
      have hwi := fun a' c' => within_rest w4.drew a' c' (l.drop ts.length) (by omega) (.inl hnil) k5 x5 tx5 an5 ln5 cn5 ai5 li5 ci5 X S hS4 hV4
      have hsub : l.length - ts.length = 0 := by omega
      rw [hlen2, hsub] at hwi
      replace hwi := hid_of hwi
      clear hV hX hP hA hV4 hS4 hb hd hS hlen2 hnil
      by_cases hcpne : c = ts.length
      all_goals cases a
      all_goals
        go_wp2_with fail
        go_region_with (first
          | (go_at_call 167; go_fit (hwi.out _ _); clear hwi; rintro e w5 ⟨hb5, cs5, rfl, hV5⟩; obtain ⟨k6, x6, s6, an6, ln6, cn6, ai6, li6, ci6, hcs5⟩ := vrep_five hV5.rep; subst hcs5; have hb45 : Below w4.heap.size w4 w5 := drew_below hb5; have hs45 := hb45.size; have hB5 : Below w.heap.size w w5 := hB4.out.trans (hb45.mono hB4.out.size); have hup := hid_of (up_turns w0 w5 (h0.below hB5) ts (.slice at0 ts.length ct0) _ (ownsRow_below hown.out hb45) hok2.out k6 x6 s6 an6 ln6 cn6 ai6 li6 ci6 _ (fun k => S k ∨ (w4.heap.size + 1 < k ∧ k < w5.heap.size)) (fun k hk => by have := hB5.size; rcases hk with hk | hk; have := hSw k hk; omega; omega) (fun p u hk => .inl (hS0 p u hk)) (seen_in' hV5)); have hRs5 : Row5 w5 (w.heap.size + 1 + 1) (.int .i64 0) (.int .i64 0) (.string ⟨#[]⟩) (.slice none 0 0) (.slice none 0 0) := hRs.out.below hb45; clear hb5 hb45 hV5 x0' x1' x2' x3' x4' hX4 hRs; simp only [five])
          | (go_at_call 120; go_fit hup.out; clear hup; rintro e w6 ⟨hb6, cs6, rfl, hV6⟩; obtain ⟨k7, x7, s7, an7, ln7, cn7, ai7, li7, ci7, hcs6⟩ := vrep_five hV6.rep; subst hcs6; have hRs6 := hRs5.below hb6; replace hV6 := hid_of hV6; obtain ⟨⟨z0, zf0⟩, ⟨z1, zf1⟩, ⟨z2, zf2⟩, ⟨z3, zf3⟩, ⟨z4, zf4⟩⟩ := id hRs6; simp only [five]))
        go_wp2_with fail
        have hlt6 := hRs6.lt
        have hR7 := hRs6.put (.int .i64 k7) (.int .i64 x7) (.string s7) (.slice an7 ln7 cn7) (.slice ai7 li7 ci7)
        unfold put5 at hR7
        obtain ⟨⟨r0, -⟩, ⟨r1, -⟩, ⟨r2, -⟩, ⟨r3, -⟩, ⟨r4, -⟩⟩ := hR7
        refine bodyPost_ret (v := .tuple #[.agg #[.int .i64 k7, .int .i64 x7, .string s7, .slice an7 ln7 cn7, .slice ai7 li7 ci7], .int .i64 0]) (by simp [results, Tryz.results118, go_sem, r0, r1, r2, r3, r4]) rfl ?_
        clear r0 r1 r2 r3 r4
        have hsz1 := hsz.out
        refine ⟨(hB5.trans (hb6.mono hB5.size)).trans (put5_below (by omega) _ _ _ _ _), .inr ⟨hd0.out, five k7 x7 s7 (.slice an7 ln7 cn7) (.slice ai7 li7 ci7), rfl, ?_⟩⟩
        rw [hset.out]
        refine Seen.wide (hV6.out.agree ⟨Nat.le_of_eq (put5_size _ _ _ _ _ _ _).symm, fun p u hp hc => (World.cell?_of_block (w := w6) (put5_far _ _ _ _ _ (show p.block ≠ w.heap.size + 1 + 1 from fun e => by
          have hp' : (S p.block ∨ (w4.heap.size + 1 < p.block ∧ p.block < w5.heap.size)) ∨ w5.heap.size + 1 < p.block := hp
          have hp2 := hSw p.block
          have hp3 : p.block < w.heap.size ∨ w4.heap.size + 1 < p.block ∨ w5.heap.size + 1 < p.block := by
            rcases hp' with (h | h) | h
            · exact .inl (hp2 h)
            · exact .inr (.inl h.1)
            · exact .inr (.inr h)
          clear hp' hp2
          omega))).trans hc⟩) (fun k hk => ?_)
        rcases (show (S k ∨ (w4.heap.size + 1 < k ∧ k < w5.heap.size)) ∨ w5.heap.size + 1 < k from hk) with (h | h) | h
        · exact .inl h
        · exact .inr (by omega)
        · exact .inr (by have := hB5.size; omega)
    · obtain ⟨b, o, rfl, hbl, hAc⟩ := hA.out.resolve_left (by intro e; apply hr; rw [e] at hlen ⊢; simp only [List.length_nil] at *; omega)
      have hwi := hid_of (within_rest w4.drew (some ⟨b, o + ts.length, none⟩) (c - ts.length) (l.drop ts.length) (by omega) (.inr ⟨b, o + ts.length, rfl, fun j s hj => by
        rw [List.getElem?_drop] at hj
        have := hAc _ s hj
        rw [Nat.add_assoc]
        exact (hB4.out.cell (p := ⟨b, o + (ts.length + j), none⟩) hbl).trans this⟩) k5 x5 tx5 an5 ln5 cn5 ai5 li5 ci5 X S hS4 hV4)
      rw [hlen2] at hwi
      have hcpne : ¬ c = ts.length := by omega
      clear hV hX hP hA hAc hV4 hS4 hb hd hS hlen2
      go_wp2_with fail
      go_region_with (first
        | (go_at_call 167; go_fit hwi.out; clear hwi; rintro e w5 ⟨hb5, cs5, rfl, hV5⟩; obtain ⟨k6, x6, s6, an6, ln6, cn6, ai6, li6, ci6, hcs5⟩ := vrep_five hV5.rep; subst hcs5; have hb45 : Below w4.heap.size w4 w5 := drew_below hb5; have hs45 := hb45.size; have hB5 : Below w.heap.size w w5 := hB4.out.trans (hb45.mono hB4.out.size); have hup := hid_of (up_turns w0 w5 (h0.below hB5) ts (.slice at0 ts.length ct0) _ (ownsRow_below hown.out hb45) hok2.out k6 x6 s6 an6 ln6 cn6 ai6 li6 ci6 _ (fun k => S k ∨ (w4.heap.size + 1 < k ∧ k < w5.heap.size)) (fun k hk => by have := hB5.size; rcases hk with hk | hk; have := hSw k hk; omega; omega) (fun p u hk => .inl (hS0 p u hk)) (seen_in' hV5)); have hRs5 : Row5 w5 (w.heap.size + 1 + 1) (.int .i64 0) (.int .i64 0) (.string ⟨#[]⟩) (.slice none 0 0) (.slice none 0 0) := hRs.out.below hb45; clear hb5 hb45 hV5 x0' x1' x2' x3' x4' hX4 hRs; simp only [five])
        | (go_at_call 120; go_fit hup.out; clear hup; rintro e w6 ⟨hb6, cs6, rfl, hV6⟩; obtain ⟨k7, x7, s7, an7, ln7, cn7, ai7, li7, ci7, hcs6⟩ := vrep_five hV6.rep; subst hcs6; have hRs6 := hRs5.below hb6; replace hV6 := hid_of hV6; obtain ⟨⟨z0, zf0⟩, ⟨z1, zf1⟩, ⟨z2, zf2⟩, ⟨z3, zf3⟩, ⟨z4, zf4⟩⟩ := id hRs6; simp only [five]))
      go_wp2_with fail
      have hlt6 := hRs6.lt
      have hR7 := hRs6.put (.int .i64 k7) (.int .i64 x7) (.string s7) (.slice an7 ln7 cn7) (.slice ai7 li7 ci7)
      unfold put5 at hR7
      obtain ⟨⟨r0, -⟩, ⟨r1, -⟩, ⟨r2, -⟩, ⟨r3, -⟩, ⟨r4, -⟩⟩ := hR7
      refine bodyPost_ret (v := .tuple #[.agg #[.int .i64 k7, .int .i64 x7, .string s7, .slice an7 ln7 cn7, .slice ai7 li7 ci7], .int .i64 0]) (by simp [results, Tryz.results118, go_sem, r0, r1, r2, r3, r4]) rfl ?_
      clear r0 r1 r2 r3 r4
      have hsz1 := hsz.out
      refine ⟨(hB5.trans (hb6.mono hB5.size)).trans (put5_below (by omega) _ _ _ _ _), .inr ⟨hd0.out, five k7 x7 s7 (.slice an7 ln7 cn7) (.slice ai7 li7 ci7), rfl, ?_⟩⟩
      rw [hset.out]
      refine Seen.wide (hV6.out.agree ⟨Nat.le_of_eq (put5_size _ _ _ _ _ _ _).symm, fun p u hp hc => (World.cell?_of_block (w := w6) (put5_far _ _ _ _ _ (show p.block ≠ w.heap.size + 1 + 1 from fun e => by
        have hp' : (S p.block ∨ (w4.heap.size + 1 < p.block ∧ p.block < w5.heap.size)) ∨ w5.heap.size + 1 < p.block := hp
        have hp2 := hSw p.block
        have hp3 : p.block < w.heap.size ∨ w4.heap.size + 1 < p.block ∨ w5.heap.size + 1 < p.block := by
          rcases hp' with (h | h) | h
          · exact .inl (hp2 h)
          · exact .inr (.inl h.1)
          · exact .inr (.inr h)
        clear hp' hp2
        omega))).trans hc⟩) (fun k hk => ?_)
      rcases (show (S k ∨ (w4.heap.size + 1 < k ∧ k < w5.heap.size)) ∨ w5.heap.size + 1 < k from hk) with (h | h) | h
      · exact .inl h
      · exact .inr (by omega)
      · exact .inr (by have := hB5.size; omega)
end Go.Proofs.YthgnkhpomhcdkaaGreatDoor
/-! dotpath.Set of a value that lies in certain blocks. -/
namespace Go.Proofs.YthgnkhpomhcdkaaGreatDoor
open Go Go.RowKit Dp

/-- The blocks of S alone: the others are empty. -/
noncomputable def only (w : World) (S : Nat → Prop) : World := { w with heap := w.heap.mapIdx fun k o => @ite _ (S k) (Classical.propDecidable _) o (.cells #[] 0) }
theorem only_size (w : World) (S : Nat → Prop) : (only w S).heap.size = w.heap.size := by simp [only]
theorem only_in {w : World} {S : Nat → Prop} {k : Nat} (h : S k) : (only w S).heap[k]? = w.heap[k]? := by
  simp only [only, Array.getElem?_mapIdx]
  cases w.heap[k]? with
  | none => rfl
  | some o => simp [h]
theorem only_out {w : World} {S : Nat → Prop} {p : Addr} {u : Value} (hc : (only w S).cell? p = some u) : S p.block := by
  refine Classical.byContradiction fun h => ?_
  have : (only w S).heap[p.block]? = (w.heap[p.block]?).map fun _ => Obj.cells #[] 0 := by
    simp only [only, Array.getElem?_mapIdx]
    cases w.heap[p.block]? with
    | none => rfl
    | some o => simp [h]
  unfold World.cell? at hc
  rw [this] at hc
  cases hh : w.heap[p.block]? with
  | none => simp [hh] at hc
  | some o => simp [hh] at hc
theorem only_sub (w : World) (S : Nat → Prop) : Sub (only w S) w :=
  ⟨Nat.le_of_eq (only_size w S), fun _ _ hc => (World.cell?_of_block (w := only w S) (only_in (only_out hc)).symm).trans hc⟩
/-- Set of a value that lies in certain blocks. -/
theorem set_seen (t X : Tr) (cs xs : List Value) (pv : Value) (l : List ByteArray) (w : World) (S0 S : Nat → Prop) (hSw : ∀ k, S k → k < w.heap.size) (hS0 : ∀ k, S0 k → S k) (hV : Seen w S0 t cs) (hX : Seen w S X xs) (hP : Reads w pv l) (hl : l.length ≤ 1000000) (hS : Hid (Sized l)) (hb : ∀ st ∈ (downT t l).2, (st.1.items.length + 1) * 80 ≤ 140737488355328) :
    Calls Tryz.prog 118 #[.agg cs.toArray, pv, .agg xs.toArray] w (SetSeen S w (downT t l).1 (setT t l X)) :=
  set_sub t X cs xs pv l (only w S0) w (only_sub w S0) (hV _ ⟨Nat.le_of_eq (only_size w S0).symm, fun _ _ hp hc => (World.cell?_of_block (w := w) (only_in hp)).trans hc⟩) S hSw (fun _ _ hc => hS0 _ (only_out hc)) hX hP hl hS hb
end Go.Proofs.YthgnkhpomhcdkaaGreatDoor
