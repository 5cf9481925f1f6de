import Derived.Test.YtdgdfpgekccibabCH
import Derived.RangeFuncNested
import Derived.RangeFuncBound
import Derived.RangeFuncCalls
import Derived.RangeFuncLeaves
import Derived.Shelf.Abstract
import Derived.Shelf.RegionOpen
import Derived.OwnWalkIn
import Derived.TacticsInMore
import Derived.LoopNIn
import Derived.LoopIn
import Derived.Laws.EntriesVeiled
import Derived.Deep.Cut
/-! clocks: the walk through a trace. -/
namespace Go.Proofs.Ytdgdfpgekccibab
open Go Go.RowKit Go.Shelf
attribute [local go_sem] Oper.semAt_some
theorem wpListIn_load_mid {F : Fence} {nF : Nat} {P : Program} {ops : Array Oper} {rest : List Oper} {op : Oper} {a : Act} {w : World} {Q : Exit → Act → World → Prop} (hgd : op.guard = none) (ty : TypeId) (x : Operand) (ho : op.op = .load ty x)
    (b o : Nat) (hx : a.eval x = .pointer (some ⟨b, o, none⟩)) (cs : List Value) (d : TypeDesc) (hc : w.rangeAt b o cs)
    (hu : P.underlying ty = some d) (hd : d.isRow = true) (hi : (P.info? ty).map (·.size) = some cs.length)
    (h : wpListIn F nF P ops Q rest (a.put op.dst (.agg cs.toArray)) w) : wpListIn F nF P ops Q (op :: rest) a w := by
  refine wpListIn_plain hgd fun K' hK' => ?_
  unfold Oper.wpIn
  refine ⟨by simp [Oper.about, ho], ?_⟩
  rw [Oper.semAt_plain F _ _ (by rw [ho]; intro c hc'; cases hc')]
  unfold execOp
  simp only [ho, hx, Instr.loadAt, Instr.sureAddr, Sem.run_bind, Sem.run_pure, Result.andThen_ok, run_loadVar_mid w b o ty cs d hc hu hd hi]
  exact hK' _ _ h
/-- What the body holds abides what the walk does with its own blocks S. -/
def Abid (J : Nat → (Nat → Prop) → World → Prop) : Prop := ∀ k S S' W W', J k S W → Fr S W W' → (∀ b, S' b → S b ∨ W.heap.size ≤ b) → J k S' W'
def clkAt (l : List Ev) (k : Nat) : Clk := match l[k]? with
  | some e => nowOf (runS (l.take k)) e
  | none => zeroC
def encE (l : List Ev) (k : Nat) : Array Value := #[.int .i64 (k : Int), .agg (ck (clkAt l k)).toArray]
/-- What the body promises of a round. -/
def RoundOk (n l : Nat) (a : Option Addr) (evs : List Ev) (J : Nat → (Nat → Prop) → World → Prop) (Jx : Nat → World → Prop) : Prop :=
  ∀ k S W1, J k S W1 → k < evs.length → EvsAt W1 a evs → (∀ b, S b → b < W1.heap.size) → YieldAt Fence.wide n Try.prog l (encE evs k) W1 fun e W' =>
    (e = .returned (.bool true) ∧ J (k + 1) S W' ∧ (∀ b, S b → W'.heap[b]? = W1.heap[b]?) ∧ W1.heap.size ≤ W'.heap.size ∧ EvsAt W' a evs) ∨ (e = .returned (.bool false) ∧ Jx (k + 1) W')
def zeros256 : Array Value := Array.replicate 256 (.int .i32 0)
set_option maxRecDepth 100000 in
theorem zv256 (w : World) : (zeroValue 81).run Try.prog w = .ok (.agg zeros256) w := by kernel_rfl
theorem zeros256_grid {w : World} {b : Nat} (h : w.heap[b]? = some (.cells zeros256 81 (0, 0))) : Grid w b 16 81 (fun _ => zeroC) := by
  refine ⟨zeros256, h, by simp [zeros256], fun c hc i hi => ?_⟩
  unfold zeros256
  rw [Array.getElem?_replicate, if_pos (by omega)]
  rfl
def PassF (kd g : Nat) : Prop := ∀ (bm bC c : Nat) (tm tc : TypeId) (m f : Nat → Clk) (w : World), Grid w bm 3 tm m → Grid w bC 16 tc f → bm ≠ bC → c < 16 → Calls Try.prog g #[.pointer (some ⟨bm, 0, none⟩), .pointer (some ⟨bC, c * 16, none⟩)] w (PassPost kd bm bC c tm tc m f w)
theorem kinds_pass {kd : Nat} (h : 1 ≤ kd ∧ kd ≤ 7) : ∃ g, kindsA[kd * 3]? = some (.func (.func g) #[] #[]) ∧ kindsA[kd * 3 + 1]? = some (.bool false) ∧ kindsA[kd * 3 + 2]? = some (.bool false) ∧ (∀ args w, (callFunc g args).run Try.prog w = .ok (.enter g args) w) ∧ PassF kd g := by
  have e : kd = 1 ∨ kd = 2 ∨ kd = 3 ∨ kd = 4 ∨ kd = 5 ∨ kd = 6 ∨ kd = 7 := by omega
  rcases e with rfl | rfl | rfl | rfl | rfl | rfl | rfl
  · exact ⟨35, rfl, rfl, rfl, enters_of Try.func35 (by kernel_rfl) rfl, fun bm bC c tm tc m f w h1 h2 h3 h4 => lock_any bm bC c tm tc m f w h1 h2 h3 h4⟩
  · exact ⟨36, rfl, rfl, rfl, enters_of Try.func36 (by kernel_rfl) rfl, fun bm bC c tm tc m f w h1 h2 h3 h4 => unlock_any bm bC c tm tc m f w h1 h2 h3 h4⟩
  · exact ⟨37, rfl, rfl, rfl, enters_of Try.func37 (by kernel_rfl) rfl, fun bm bC c tm tc m f w h1 h2 h3 h4 => rlock_any bm bC c tm tc m f w h1 h2 h3 h4⟩
  · exact ⟨38, rfl, rfl, rfl, enters_of Try.func38 (by kernel_rfl) rfl, fun bm bC c tm tc m f w h1 h2 h3 h4 => runlock_any bm bC c tm tc m f w h1 h2 h3 h4⟩
  · exact ⟨39, rfl, rfl, rfl, enters_of Try.func39 (by kernel_rfl) rfl, fun bm bC c tm tc m f w h1 h2 h3 h4 => load_any bm bC c tm tc m f w h1 h2 h3 h4⟩
  · exact ⟨40, rfl, rfl, rfl, enters_of Try.func40 (by kernel_rfl) rfl, fun bm bC c tm tc m f w h1 h2 h3 h4 => store_any bm bC c tm tc m f w h1 h2 h3 h4⟩
  · exact ⟨41, rfl, rfl, rfl, enters_of Try.func41 (by kernel_rfl) rfl, fun bm bC c tm tc m f w h1 h2 h3 h4 => add_any bm bC c tm tc m f w h1 h2 h3 h4⟩
theorem kinds_no {kd : Nat} (h : 8 ≤ kd ∧ kd ≤ 11) : kindsA[kd * 3]? = some .nilFunc ∧ kindsA[kd * 3 + 1]? = some (.bool (kd == 8)) ∧ kindsA[kd * 3 + 2]? = some (.bool (kd == 9)) := by
  have e : kd = 8 ∨ kd = 9 ∨ kd = 10 ∨ kd = 11 := by omega
  rcases e with rfl | rfl | rfl | rfl <;> exact ⟨rfl, rfl, rfl⟩
theorem fn_ne (g : Nat) (w : World) : (binOp .neq 62 (.func (.func g) #[] #[]) .nilFunc).run Try.prog w = .ok (.bool true) w := by kernel_rfl
theorem fn_no (w : World) : (binOp .neq 62 .nilFunc .nilFunc).run Try.prog w = .ok (.bool false) w := by kernel_rfl
/-- What holds between two rounds. -/
structure LI (J : Nat → (Nat → Prop) → World → Prop) (a : Option Addr) (evs : List Ev) (bC bK mb k m : Nat) (f : Where) (S : Nat → Prop) (w : World) : Prop where
  le : k ≤ evs.length
  it : ItAt w bC bK mb m f (runS (evs.take k))
  mle : m ≤ k
  j : J k S w
  own : ∀ b, OwnB bC bK mb f b → S b
  lt : ∀ b, S b → b < w.heap.size
  ev : EvsAt w a evs
  evS : ∀ p, a = some p → evs ≠ [] → ¬ S p.block
theorem cells4 {w : World} {b : Nat} {c0 c1 c2 c3 : Value} {t : TypeId} (h : w.heap[b]? = some (.cells #[c0, c1, c2, c3] t (0, 0))) : w.cell? ⟨b, 0, none⟩ = some c0 ∧ w.cell? ⟨b, 1, none⟩ = some c1 ∧ w.cell? ⟨b, 2, none⟩ = some c2 ∧ w.cell? ⟨b, 3, none⟩ = some c3 := by
  refine ⟨?_, ?_, ?_, ?_⟩ <;> simp [World.cell?, h]
/-- Behind what the step does, ahead of the body's round. -/
structure Mid (J : Nat → (Nat → Prop) → World → Prop) (a : Option Addr) (evs : List Ev) (bC bK mb k m : Nat) (f : Where) (S : Nat → Prop) (c : Nat) (w : World) : Prop where
  it : ItAt w bC bK mb m f (runS (evs.take (k + 1)))
  mle : m ≤ k + 1
  j : J k S w
  own : ∀ b, OwnB bC bK mb f b → S b
  lt : ∀ b, S b → b < w.heap.size
  ev : EvsAt w a evs
  evS : ∀ p, a = some p → evs ≠ [] → ¬ S p.block
  rng : w.rangeAt bC (c * 16) (ck (clkAt evs k))
theorem mid_of {J : Nat → (Nat → Prop) → World → Prop} {a : Option Addr} {evs : List Ev} {bC bK mb k m m' : Nat} {f f' : Where} {S : Nat → Prop} {wr Z : World} {c kd : Nat} {o0 n0 : Int} (hJ : Abid J) (hL : LI J a evs bC bK mb k m f S wr) (hev : evs[k]? = some ⟨c, kd, o0, n0⟩) (hc : c < 16)
    (hI : ItAt Z bC bK mb m' f' (stepS (runS (evs.take k)) ⟨c, kd, o0, n0⟩)) (hm : m' ≤ k + 1) (hF : Fr S wr Z) (hown : ∀ b, OwnB bC bK mb f' b → S b ∨ wr.heap.size ≤ b) : ∃ S', Mid J a evs bC bK mb k m' f' S' c Z := by
  have hlt : ∀ p, a = some p → evs ≠ [] → p.block < wr.heap.size := fun p hp hne => by
    obtain ⟨b, o, h1, h2, _⟩ := hL.ev k _ hev
    rw [h1] at hp
    cases hp
    exact h2
  have hr := hI.cl.range hc
  refine ⟨fun b => (S b ∨ wr.heap.size ≤ b) ∧ b < Z.heap.size, by rw [runS_take hev]; exact hI, hm, hJ _ _ _ _ _ hL.j hF (fun b hb => hb.1), fun b hb => ⟨hown b hb, hI.lt hb⟩, fun b hb => hb.2, hL.ev.fr hF hL.evS, fun p hp hne hb => ?_, ?_⟩
  · rcases hb.1 with h | h
    · exact hL.evS p hp hne h
    · have := hlt p hp hne; omega
  · have e : clkAt evs k = (stepS (runS (evs.take k)) ⟨c, kd, o0, n0⟩).cl c := by
      unfold clkAt
      rw [hev]
      simp only [stepS, Int.toNat_natCast, upd_same]
    rw [e]
    exact hr
theorem Mid.next {J : Nat → (Nat → Prop) → World → Prop} {a : Option Addr} {evs : List Ev} {bC bK mb k m : Nat} {f : Where} {S : Nat → Prop} {c : Nat} {w w' : World} (h : Mid J a evs bC bK mb k m f S c w) (hk : k < evs.length) (hj : J (k + 1) S w') (hS : ∀ b, S b → w'.heap[b]? = w.heap[b]?) (hs : w.heap.size ≤ w'.heap.size) (hE : EvsAt w' a evs) : LI J a evs bC bK mb (k + 1) m f S w' :=
  ⟨by omega, h.it.keep (fun b hb => hS b (h.own b hb)), h.mle, hj, h.own, fun b hb => Nat.lt_of_lt_of_le (h.lt b hb) hs, hE, h.evS⟩
theorem step_no (s : St) {c kd : Nat} (o n : Int) (h : 8 ≤ kd) : stepS s ⟨c, kd, o, n⟩ = ⟨upd s.cl c (bumpC (s.cl c) c), s.mm⟩ := by
  have h1 : passC kd (s.mm o n) (bumpC (s.cl c) c) = bumpC (s.cl c) c := by
    unfold passC
    rw [if_neg (by omega), if_neg (by omega), if_neg (by omega), if_neg (by omega)]
  have h2 : passM kd (s.mm o n) (bumpC (s.cl c) c) = s.mm o n := by
    unfold passM
    rw [if_neg (by omega), if_neg (by omega), if_neg (by omega), if_neg (by omega)]
  have h3 : updM s.mm o n (s.mm o n) = s.mm := by
    funext o' n'
    unfold updM
    split
    · next e => rw [e.1, e.2]
    · rfl
  simp only [stepS, nowOf, bumped, Int.toNat_natCast, h1, h2, h3]
set_option maxHeartbeats 2000000 in
set_option maxRecDepth 100000 in
theorem iter_any (n l bE cap : Nat) (a : Option Addr) (evs : List Ev) (J : Nat → (Nat → Prop) → World → Prop) (Jx : Nat → World → Prop) (W : World) (hE : EvsAt W a evs) (hbox : W.cell? ⟨bE, 0, none⟩ = some (.slice a evs.length cap)) (hcap : evs.length ≤ cap)
    (hok : ∀ e ∈ evs, okEv 16 e = true) (hwf : ∀ e ∈ evs, I64 e.o ∧ I64 e.n) (hlen : evs.length ≤ 1048576) (hJ : Abid J) (hY : RoundOk (n - 1) l a evs J Jx) (h0 : J 0 (fun _ => False) W) :
    CallsIn Fence.wide n Try.prog 30 #[.func (.yield l) #[] #[], .pointer (some ⟨bE, 0, none⟩)] W fun e W' => (∃ v, e = .returned v) ∧ ((∃ S, J evs.length S W') ∨ (∃ k, k ≤ evs.length ∧ Jx k W')) := by
  refine callsIn_wide.2 ?_
  have hks := hid_of (fun w => kinds_any w)
  have hmm := @run_makeMap Try.prog
  have hzv := zv256
  have hF0 : Fr (fun _ => False) W (W.alloc (.cells zeros256 81)) := (Fr.refl _ W).alloc _
  have z0 := heap_alloc_new W (.cells zeros256 81)
  replace hok := hid_of hok
  replace hwf := hid_of hwf
  go_enter Try.func30, Try.ntmps30
  go_wp2_with fail
  generalize W.alloc (.cells zeros256 81) = X0 at hF0 z0 ⊢
  refine (hks.out _).mono ?_
  rintro e X1 ⟨rfl, hB1⟩
  clear hzv
  obtain ⟨X3, hX3⟩ : ∃ X3, Hid ((X1.alloc (.map #[] 0)).alloc (.cells kinds0 65) = X3) := ⟨_, rfl⟩
  have g3 : X3.heap[X1.heap.size + 1]? = some (.cells kinds0 65 (0, 0)) := by rw [← hX3.out]; exact heap_alloc2_new X1 _ _
  obtain ⟨X4, hX4⟩ : ∃ X4, Hid (X3.setRow (X1.heap.size + 1) kindsA = X4) := ⟨_, rfl⟩
  have o1 : kindsA.all (·.oneCell') = true := by kernel_rfl
  have s1 : kinds0.size = kindsA.size := rfl
  have i1 : (Try.prog.info? 65).map (·.size) = some kindsA.size := ks_i
  have hz0 : W.heap.size < X0.heap.size := (Array.getElem?_eq_some_iff.1 z0).1
  have hs1 := hB1.size
  have hF4 : Fr (fun _ => False) X1 X4 := by rw [← hX4.out, ← hX3.out]; exact (((Fr.refl _ X1).alloc _).alloc _).setRow _ _ (.inr (by omega))
  have hF5 : Fr (fun _ => False) W X4 := (hF0.trans (Fr.of_below hB1)).trans hF4
  have hI : ItAt X4 W.heap.size (X1.heap.size + 1) X1.heap.size 0 (fun _ _ => none) (runS (evs.take 0)) := by
    refine ⟨zeros256_grid ((hF4.block _ (by omega) (fun e => e)).trans ((hB1.block _ hz0).trans z0)), ?_, ?_, (fun o k b h => by cases h), (fun _ _ _ => rfl), (fun _ _ _ _ _ h => by cases h), (fun _ _ _ h => by cases h), by omega⟩
    · rw [← hX4.out]; exact setRow_heap _ _ _ _ _ _ g3
    · refine (thAt_made X1).keep ?_
      rw [← hX4.out, setRow_other _ _ _ _ (by omega), ← hX3.out]
      exact Below.heap_alloc _ _ _ (by simp)
  have hc4 : X4.cell? ⟨bE, 0, none⟩ = some (.slice a evs.length cap) := hF5.cell hbox (fun e => e)
  have hE4 := hE.fr hF5 (fun _ _ _ e => e)
  have hJ4 : J 0 (fun b => W.heap.size ≤ b ∧ b < X4.heap.size) X4 := hJ _ _ _ _ _ h0 hF5 (fun b hb => .inr hb.1)
  have hsz4 : X1.heap.size + 1 < X4.heap.size := by
    have := hI.lt (.inr (.inl rfl))
    exact this
  have hev0 : ∀ p, a = some p → evs ≠ [] → ¬ (W.heap.size ≤ p.block ∧ p.block < X4.heap.size) := fun p hp hne hh => by
    obtain ⟨e, l', rfl⟩ : ∃ e l', evs = e :: l' := by
      cases evs with
      | nil => exact absurd rfl hne
      | cons e l' => exact ⟨e, l', rfl⟩
    obtain ⟨b, o, h1, h2, _⟩ := hE 0 e rfl
    rw [h1] at hp
    cases hp
    have hh := hh.1
    simp only at hh
    omega
  replace hev0 := hid_of hev0
  replace hI := hid_of hI
  unfold kinds0 at hX3 g3 s1
  replace hE4 := hid_of hE4
  replace hJ4 := hid_of hJ4
  replace hF5 := hid_of hF5
  clear hF4 hB1 hF0 z0 hE hbox h0
  go_wp2_with (first | rw [hX3.out] | rw [hX4.out] | (refine wpList_store_row rfl 65 _ _ rfl (X1.heap.size + 1) _ rfl rfl _ _ g3 i1 s1 o1 ?_))
  clear g3 o1 s1 i1 hX3 hX4 hmm hks
  go_loopw [14] (fun i wr => ∃ (k : Nat) (m : Nat) (f : Where) (S : Nat → Prop), i = .int .i64 k ∧ LI J a evs W.heap.size (X1.heap.size + 1) X1.heap.size k m f S wr) (fun i _ => evs.length - (intOf i).toNat)
  case atStart => exact ⟨0, 0, _, _, rfl, by omega, hI.out, by omega, hJ4.out, (fun b hb => by
      refine ⟨?_, hI.out.lt hb⟩
      rcases hb with rfl | rfl | rfl | ⟨o, k, hb⟩
      · exact Nat.le_refl _
      · omega
      · omega
      · exact absurd hb (by simp)), (fun b hb => hb.2), hE4.out, hev0.out⟩
  case round =>
    clear hI hJ4 hE4 hF5 hc4
    obtain ⟨k, m, f, S, rfl, hL⟩ := hrel
    by_cases hlt : k < evs.length
    · obtain ⟨ev, hev⟩ : ∃ ev, Hid (evs[k]? = some ev) := ⟨evs[k], List.getElem?_eq_getElem hlt⟩
      obtain ⟨b, o, rfl, hb, y0, y1, y2, y3⟩ := hL.ev k ev hev.out
      have hev1 := hok.out ev (List.mem_of_getElem? hev.out)
      have hev2 := hwf.out ev (List.mem_of_getElem? hev.out)
      obtain ⟨c0, k0, o0, n0⟩ := ev
      simp only at y0 y1 y2 y3 hev2
      unfold okEv at hev1
      simp at hev1
      obtain ⟨c, rfl⟩ := Int.eq_ofNat_of_zero_le hev1.1.1.1
      obtain ⟨kd, rfl⟩ := Int.eq_ofNat_of_zero_le (a := k0) (by omega)
      have hc : c < 16 := by omega
      have hkd : 1 ≤ kd ∧ kd ≤ 11 := by omega
      clear hev1
      obtain ⟨s, hs⟩ : ∃ s, Hid (runS (evs.take k) = s) := ⟨_, rfl⟩
      have hI := hL.it
      have hbd := (runS_bdk evs k (by omega)).1 c c
      rw [hs.out] at hI hbd
      obtain ⟨Y1, hY1⟩ : ∃ Y1, Hid (wr.alloc (.cells #[.int .i64 (c : Int), .int .i64 (kd : Int), .int .i64 o0, .int .i64 n0] 57) = Y1) := ⟨_, rfl⟩
      have hB1 : Below wr.heap.size wr Y1 := by rw [← hY1.out]; exact (Below.refl _ wr).alloc (Nat.le_refl _) _
      have x1 : Y1.heap[wr.heap.size]? = some (.cells #[.int .i64 (c : Int), .int .i64 (kd : Int), .int .i64 o0, .int .i64 n0] 57 (0, 0)) := by rw [← hY1.out]; exact heap_alloc_new wr _
      have hI1 := hI.below hB1
      have q1 := hI1.cl.cell hc hc
      have q2 := hI1.cl.frozen (c * 16 + c)
      obtain ⟨p0, p1, p2, p3⟩ := cells4 x1
      go_wp2_with (rw [hY1.out])
      obtain ⟨Y2, hY2⟩ : ∃ Y2, Hid ((Y1.setCell ⟨W.heap.size, c * 16 + c, none⟩ (.int .i32 ((s.cl c c : Int) + 1))).drew = Y2) := ⟨_, rfl⟩
      have hI2 : ItAt Y2 W.heap.size (X1.heap.size + 1) X1.heap.size m f ⟨upd s.cl c (bumpC (s.cl c) c), s.mm⟩ := by rw [← hY2.out]; exact (hI1.bump hc).keep (fun _ _ => rfl)
      have hF2 : Fr (· = W.heap.size) wr Y2 := by rw [← hY2.out]; exact ((Fr.of_below (S := (· = W.heap.size)) hB1).set ⟨W.heap.size, c * 16 + c, none⟩ _ (.inl rfl)).drew
      have hCW : W.heap.size < wr.heap.size := hI.cl.lt
      have x2 : Y2.heap[wr.heap.size]? = some (.cells #[.int .i64 (c : Int), .int .i64 (kd : Int), .int .i64 o0, .int .i64 n0] 57 (0, 0)) := by
        rw [← hY2.out]
        exact (Below.heap_setCell _ _ _ _ (by show wr.heap.size ≠ W.heap.size; omega)).trans x1
      go_region
      all_goals
        rw [hY2.out]
        clear hY2 q1 q2 p0 p1 p2 p3 y0 y1 y2 y3 hI hI1 x1 hB1 hY1
        obtain ⟨p0, p1, p2, p3⟩ := cells4 x2
        by_cases hk7 : kd ≤ 7
        · obtain ⟨g, g0, g1, g2, hent, hpass⟩ := kinds_pass ⟨hkd.1, hk7⟩
          have r0 : Y2.cell? ⟨X1.heap.size + 1, kd * 3, none⟩ = some (.func (.func g) #[] #[]) := by simp [World.cell?, hI2.ks, g0]
          have r1 : Y2.cell? ⟨X1.heap.size + 1, kd * 3 + 1, none⟩ = some (.bool false) := by simp [World.cell?, hI2.ks, g1]
          have r2 : Y2.cell? ⟨X1.heap.size + 1, kd * 3 + 2, none⟩ = some (.bool false) := by simp [World.cell?, hI2.ks, g2]
          obtain ⟨Y3, hY3⟩ : ∃ Y3, Hid (Y2.alloc (.cells #[.func (.func g) #[] #[], .bool false, .bool false] 64) = Y3) := ⟨_, rfl⟩
          have hB3 : Below Y2.heap.size Y2 Y3 := by rw [← hY3.out]; exact (Below.refl _ Y2).alloc (Nat.le_refl _) _
          have z3 : Y3.heap[Y2.heap.size]? = some (.cells #[.func (.func g) #[] #[], .bool false, .bool false] 64 (0, 0)) := by rw [← hY3.out]; exact heap_alloc_new Y2 _
          obtain ⟨k0, k1, k2⟩ := cells3 z3
          have hI3 := hI2.below hB3
          have x3 := (hB3.block _ (Array.getElem?_eq_some_iff.1 x2).1).trans x2
          obtain ⟨v0, v1, v2, v3⟩ := cells4 x3
          clear g0 g1 g2
          have hfn := fn_ne g
          go_wp2_with (rw [hY3.out])
          have hneX : X1.heap.size < wr.heap.size := hL.it.th.lt
          have hsY2 : wr.heap.size ≤ Y2.heap.size := hF2.size
          have hsw : wr.heap.size < Y2.heap.size := (Array.getElem?_eq_some_iff.1 x2).1
          have hsz3 : Y2.heap.size < Y3.heap.size := (Array.getElem?_eq_some_iff.1 z3).1
          have hm1 : m ≤ 1048576 := by have := hL.mle; omega
          have htin := hid_of (tin_marks X1.heap.size m f (kd : Int) o0 n0 Y3.drew (hI3.th.keep rfl) hm1 hev2.1 hev2.2)
          have hI3' : Hid (ItAt Y3.drew W.heap.size (X1.heap.size + 1) X1.heap.size m f ⟨upd s.cl c (bumpC (s.cl c) c), s.mm⟩) := hI3.keep (fun _ _ => rfl)
          replace hpass := hid_of hpass
          replace hL := hid_of hL
          replace hF2 := hid_of hF2
          replace hB3 := hid_of hB3
          replace x3 := hid_of x3
          replace z3 := hid_of z3
          clear hI2 hI3 x2 r0 r1 r2 p0 p1 p2 p3 hY3 hfn
          go_region_held3 (fun w' => w'.cell? ⟨Y2.heap.size, 0, none⟩ = some (.func (.func g) #[] #[]) ∧ w'.cell? ⟨wr.heap.size, 1, none⟩ = some (.int .i64 (kd : Int)) ∧ w'.cell? ⟨wr.heap.size, 2, none⟩ = some (.int .i64 o0) ∧ w'.cell? ⟨wr.heap.size, 3, none⟩ = some (.int .i64 n0)) (go_keep) (first
            | (go_at_call 31; refine htin.out.mono ?_; rintro e Z1 ⟨bb, m', rfl, hm', hT1, hFr1, hbb⟩; obtain ⟨j1, j2, j3, j4⟩ := hI3'.out.pass hT1 hFr1 hbb; have t0 : Z1.cell? ⟨Y2.heap.size, 0, none⟩ = some (.func (.func g) #[] #[]) := hFr1.cell k0 (by show ¬ Y2.heap.size = X1.heap.size; omega); have t1 : Z1.cell? ⟨wr.heap.size, 1, none⟩ = some (.int .i64 (kd : Int)) := hFr1.cell v1 (by show ¬ wr.heap.size = X1.heap.size; omega); have t2 : Z1.cell? ⟨wr.heap.size, 2, none⟩ = some (.int .i64 o0) := hFr1.cell v2 (by show ¬ wr.heap.size = X1.heap.size; omega); have t3 : Z1.cell? ⟨wr.heap.size, 3, none⟩ = some (.int .i64 n0) := hFr1.cell v3 (by show ¬ wr.heap.size = X1.heap.size; omega); have hq : Hid (bb < wr.heap.size ∨ Y3.heap.size ≤ bb) := hbb.elim (fun h => .inl (hL.out.it.lt (.inr (.inr (.inr ⟨_, _, h⟩))))) (fun h => .inr h.2.1); replace hT1 := hid_of hT1; replace hFr1 := hid_of hFr1; replace hbb := hid_of hbb; replace j1 := hid_of j1; replace j2 := hid_of j2; replace j3 := hid_of j3; replace j4 := hid_of j4)
            | (refine (hpass.out bb W.heap.size c _ _ _ _ Z1 j1.out j2.out j3.out hc).mono ?_; rintro e Z2 hpp; have hI4 := hid_of (j4.out _ _ _ _ hpp); obtain ⟨rfl, -, -, hFr2⟩ := hpp; have n1 : ¬ (Y2.heap.size = bb ∨ Y2.heap.size = W.heap.size) := (by have := hq.out; omega); have n2 : ¬ (wr.heap.size = bb ∨ wr.heap.size = W.heap.size) := (by have := hq.out; omega); have e0 := hFr2.cell t0 n1; have e1 := hFr2.cell t1 n2; have e2 := hFr2.cell t2 n2; have e3 := hFr2.cell t3 n2; replace hFr2 := hid_of hFr2; clear n1 n2))
          clear e0 e1 e2 e3 t0 t1 t2 t3 k0 k1 k2 v0 v1 v2 v3 hpass htin
          have hF : Fr S wr Z2 := by
            have f1 : Fr S wr Y2 := hF2.out.mono (fun i h => .inl (by subst h; exact hL.out.own _ (.inl rfl)))
            have f2 : Fr S wr Y3.drew := (f1.trans (Fr.of_below hB3.out)).drew
            have f3 : Fr S wr Z1 := f2.next hFr1.out (fun i h => .inl (by subst h; exact hL.out.own _ (.inr (.inr (.inl rfl)))))
            refine f3.next hFr2.out (fun i h => ?_)
            rcases h with rfl | rfl
            · rcases hbb.out with h | ⟨_, h, _⟩
              · exact .inl (hL.out.own _ (.inr (.inr (.inr ⟨_, _, h⟩))))
              · exact .inr (by have : Y3.drew.heap.size = Y3.heap.size := rfl; omega)
            · exact .inl (hL.out.own _ (.inl rfl))
          have hI5 := hI4.out
          rw [upd_upd, upd_same] at hI5
          obtain ⟨S', hM⟩ := mid_of hJ hL.out hev.out hc (by rw [hs.out]; exact hI5) (by have := hL.out.mle; omega) hF (fun i h => by
            rcases h with rfl | rfl | rfl | ⟨o', n', h⟩
            · exact .inl (hL.out.own _ (.inl rfl))
            · exact .inl (hL.out.own _ (.inr (.inl rfl)))
            · exact .inl (hL.out.own _ (.inr (.inr (.inl rfl))))
            · by_cases e : o' = o0 ∧ n' = n0
              · rw [e.1, e.2, updW_same] at h
                cases h
                rcases hbb.out with h | ⟨_, h, _⟩
                · exact .inl (hL.out.own _ (.inr (.inr (.inr ⟨_, _, h⟩))))
                · exact .inr (by have : Y3.drew.heap.size = Y3.heap.size := rfl; omega)
              · rw [updW_other _ _ e] at h
                exact .inl (hL.out.own _ (.inr (.inr (.inr ⟨_, _, h⟩)))))
          clear hF hI5 hI4 hFr2 hFr1 hF2 hB3 hL hbb hq j1 j2 j3 j4 hT1 hI3'
          go_upto_region 10 with fail
          obtain ⟨fn, tmps, assign, body, hy, hR⟩ := hY k S' Z2 hM.j hlt hM.ev hM.lt
          unfold encE at hy
          refine (wpIn_wide (n := n)).1 ?_
          gi_wp2_with (refine wpListIn_load_mid rfl 49 _ rfl W.heap.size (c * 16) rfl (ck (clkAt evs k)) _ hM.rng clk_u rfl (by rw [clk_i, ck_len]) ?_)
          refine ⟨fun h => (by cases h), hR.mono ?_⟩
          clear hR hy
          rintro e W' (⟨rfl, hJ', hS', hs', hE'⟩ | ⟨rfl, hJx'⟩)
          · have hL' := hid_of (hM.next hlt hJ' hS' hs' hE')
            clear hM hJ' hS' hs' hE'
            gi_wp2_with fail
            go_wp2_with fail
            go_roundw
            case rel => exact ⟨k + 1, _, _, _, by go_num, hL'.out⟩
            case measure => simp [intOf]; omega
          · gi_wp2_with fail
            go_wp2_with fail
            refine bodyPost_ret (results_none rfl _ _ _) rfl ?_
            exact ⟨⟨_, rfl⟩, .inr ⟨k + 1, by omega, hJx'⟩⟩
        · obtain ⟨g0, g1, g2⟩ := kinds_no (kd := kd) (by omega)
          have r0 : Y2.cell? ⟨X1.heap.size + 1, kd * 3, none⟩ = some .nilFunc := by simp [World.cell?, hI2.ks, g0]
          have r1 : Y2.cell? ⟨X1.heap.size + 1, kd * 3 + 1, none⟩ = some (.bool (kd == 8)) := by simp [World.cell?, hI2.ks, g1]
          have r2 : Y2.cell? ⟨X1.heap.size + 1, kd * 3 + 2, none⟩ = some (.bool (kd == 9)) := by simp [World.cell?, hI2.ks, g2]
          generalize (kd == 8) = u8 at r1
          generalize (kd == 9) = u9 at r2
          obtain ⟨Y3, hY3⟩ : ∃ Y3, Hid (Y2.alloc (.cells #[.nilFunc, .bool u8, .bool u9] 64) = Y3) := ⟨_, rfl⟩
          have hB3 : Below Y2.heap.size Y2 Y3 := by rw [← hY3.out]; exact (Below.refl _ Y2).alloc (Nat.le_refl _) _
          have z3 : Y3.heap[Y2.heap.size]? = some (.cells #[.nilFunc, .bool u8, .bool u9] 64 (0, 0)) := by rw [← hY3.out]; exact heap_alloc_new Y2 _
          obtain ⟨k0, k1, k2⟩ := cells3 z3
          have hI3 := hI2.below hB3
          have hfn := fn_no
          obtain ⟨S', hM⟩ := mid_of hJ hL hev.out hc (by rw [hs.out, step_no s (c := c) o0 n0 (by omega)]; exact hI3) (by have := hL.mle; omega) ((hF2.mono (fun i h => .inl (by subst h; exact hL.own _ (.inl rfl)))).trans (Fr.of_below hB3)) (fun i h => .inl (hL.own _ h))
          have hM' := hid_of hM
          clear hM g0 g1 g2 hI2 hI3 hB3 hL hF2 z3 x2
          go_upto_region 10 with (rw [hY3.out])
          have hM := hM'.out
          clear hM'
          obtain ⟨fn, tmps, assign, body, hy, hR⟩ := hY k S' Y3 hM.j hlt hM.ev hM.lt
          unfold encE at hy
          refine (wpIn_wide (n := n)).1 ?_
          gi_wp2_with (refine wpListIn_load_mid rfl 49 _ rfl W.heap.size (c * 16) rfl (ck (clkAt evs k)) _ hM.rng clk_u rfl (by rw [clk_i, ck_len]) ?_)
          refine ⟨fun h => (by cases h), hR.mono ?_⟩
          clear hR hy
          rintro e W' (⟨rfl, hJ', hS', hs', hE'⟩ | ⟨rfl, hJx'⟩)
          · have hL' := hid_of (hM.next hlt hJ' hS' hs' hE')
            clear hM hJ' hS' hs' hE'
            gi_wp2_with fail
            go_wp2_with fail
            go_roundw
            case rel => exact ⟨k + 1, _, _, _, by go_num, hL'.out⟩
            case measure => simp [intOf]; omega
          · gi_wp2_with fail
            go_wp2_with fail
            refine bodyPost_ret (results_none rfl _ _ _) rfl ?_
            exact ⟨⟨_, rfl⟩, .inr ⟨k + 1, by omega, hJx'⟩⟩
    · have hk : k = evs.length := by have := hL.le; omega
      subst hk
      have hj := hL.j
      clear hL
      go_wp2_with fail
      go_end0
      exact ⟨⟨_, rfl⟩, .inl ⟨S, hj⟩⟩
end Go.Proofs.Ytdgdfpgekccibab
