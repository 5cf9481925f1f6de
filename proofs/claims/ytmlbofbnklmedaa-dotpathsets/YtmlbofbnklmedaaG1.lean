import Derived.Test.YtmlbofbnklmedaaF2
import Derived.Test.YtmlbofbnklmedaaD9
import Derived.Deep.DeepCutAuto
/-! All, where no list is met but by an index. -/
namespace Go.Proofs.Ytmlbofbnklmedaa
open Go Go.RowKit

def spreadB (k : Int) (s : ByteArray) : Bool := decide (k = 5) && !(idx s).isSome
set_option maxHeartbeats 1000000 in
set_option maxRecDepth 100000 in
theorem spreads_any (k x : Int) (tx : ByteArray) (an : Option Addr) (ln cn : Nat) (ai : Option Addr) (li ci : Nat) (s : ByteArray) (hs : s.size ≤ 9223372036854775806) (w : World) : Calls Try.prog 61 #[.agg #[.int .i64 k, .int .i64 x, .string tx, .slice an ln cn, .slice ai li ci], .string s] w fun e w' => e = .returned (.bool (spreadB k s)) ∧ Below w.heap.size w w' := by
  have hix : ∀ o, Calls Try.prog 45 #[.string s] (w.alloc o) fun e w' => e = .returned (idxV s) ∧ Below (w.alloc o).heap.size (w.alloc o) w' := fun o => index_any s hs _
  unfold idxV at hix
  unfold spreadB
  generalize (idx s).isSome = z at *
  generalize (((idx s).getD 0 : Nat) : Int) = n at *
  by_cases h5 : k = 5
  · subst h5
    cases z
    all_goals
      go_enter Try.func61, Try.ntmps61
      go_wp2_with fail
      refine (hix _).mono ?_
      rintro e w1 ⟨rfl, hb1⟩
      clear hix
      have y0 : w1.cell? ⟨w.heap.size, 0, none⟩ = some (.int .i64 5) := box_cells hb1 0
      go_wp2_with fail
      go_ret
      exact ⟨rfl, below_box hb1⟩
  · have e5 : (k == 5) = false := by simpa using h5
    have d5 : decide (k = 5) = false := by simpa using h5
    rw [d5, Bool.false_and]
    go_enter Try.func61, Try.ntmps61
    go_wp2_with fail
    refine (hix _).mono ?_
    rintro e w1 ⟨rfl, hb1⟩
    clear hix
    have y0 : w1.cell? ⟨w.heap.size, 0, none⟩ = some (.int .i64 k) := box_cells hb1 0
    go_wp2_with fail
    go_ret
    exact ⟨rfl, below_box hb1⟩
/-- The way meets no list but by an index. -/
def NoBad (t : Tr) (l : List ByteArray) : Prop := ∀ (m : Nat) (u : Tr) (s : ByteArray), getT t (l.take m) = some u → l[m]? = some s → spreadB u.kind s = false
theorem take_snoc {l : List ByteArray} {q : Nat} {x : ByteArray} (h : l[q]? = some x) : l.take (q + 1) = l.take q ++ [x] := by rw [List.take_add_one, h]; rfl
theorem getT_snoc : (l : List ByteArray) → (t u v : Tr) → (s : ByteArray) → (i : Nat) → getT t l = some u → placeB u.kind u.names u.items.length s = true → placeI u.kind u.names s = i → u.items[i]? = some v → getT t (l ++ [s]) = some v
  | [], t, u, v, s, i, h, hb, hi, hv => by
    have e : getT t [] = some t := by cases t; rfl
    rw [e] at h
    cases h
    rw [List.nil_append, getT_some hb hi hv]
    cases v; rfl
  | x :: r, t, u, v, s, i, h, hb, hi, hv => by
    rw [List.cons_append]
    cases hp : placeT t x with
    | none => simp [getT, hp] at h
    | some j =>
      cases hj : t.items[j]? with
      | none => simp [getT, hp, hj] at h
      | some y =>
        simp only [getT, hp, hj] at h ⊢
        exact getT_snoc r y u v s i h hb hi hv
/-- What All answers there. -/
def AllR (w : World) (r : Option Tr) (e : Ending) (w' : World) : Prop :=
  Below w.heap.size w w' ∧ match r with
    | none => e = .returned (.slice none 0 0)
    | some u => ∃ (g cap : Nat) (k x : Int) (s : ByteArray) (an : Option Addr) (ln cn : Nat) (ai : Option Addr) (li ci : Nat), e = .returned (.slice (some ⟨g, 0, none⟩) 1 cap) ∧ CellsAt w' g 0 (five k x s (.slice an ln cn) (.slice ai li ci)) ∧ VRep w' u (five k x s (.slice an ln cn) (.slice ai li ci))
theorem F25 : (Try.prog.info? 25).map (fun i => (i.zero, i.size, i.bytes)) = some (some (.agg #[.int .i64 0, .int .i64 0, .string ⟨#[]⟩, .slice none 0 0, .slice none 0 0]), 5, 80) := by kernel_rfl
theorem five_one (k x : Int) (s : ByteArray) (a : Option Addr) (l c : Nat) (a' : Option Addr) (l' c' : Nat) : ∀ u ∈ [Value.int .i64 k, .int .i64 x, .string s, .slice a l c, .slice a' l' c'], u.oneCell' = true := by
  intro u hu
  simp only [List.mem_cons, List.not_mem_nil, or_false] at hu
  rcases hu with rfl | rfl | rfl | rfl | rfl <;> rfl
theorem row_cell {w : World} {lo : Nat} {e : TypeId} {size g n cap : Nat} {xs : List Value} (h : w.ownsRow lo e size (.slice (some ⟨g, 0, none⟩) n cap) n xs) : ∀ j u, xs[j]? = some u → w.cell? ⟨g, j, none⟩ = some u := by
  intro j u hj
  obtain ⟨h1, h2⟩ := h
  rcases h2 with ⟨hv, _⟩ | ⟨g', cap', cur, hv, hg, hh, hc, hm, hs, hr⟩
  · cases hv
  · cases hv
    have hlt := (List.getElem?_eq_some_iff.1 hj).1
    rw [← hr, List.getElem?_take_of_lt (by rw [← h1]; exact hlt), Array.getElem?_toList] at hj
    simp [World.cell?, hh, hj]

set_option maxHeartbeats 4000000 in
set_option maxRecDepth 100000 in
theorem gather_meets (t : Tr) (k0 x0 : Int) (s0 : ByteArray) (an0 : Option Addr) (ln0 cn0 : Nat) (ai0 : Option Addr) (li0 ci0 : Nat) (a : Option Addr) (c : Nat) (l : List ByteArray) (w : World) (hV : Hid (VRep w t (five k0 x0 s0 (.slice an0 ln0 cn0) (.slice ai0 li0 ci0)))) (hA : Hid (l = [] ∨ ∃ b o, a = some ⟨b, o, none⟩ ∧ b < w.heap.size ∧ ∀ j s, l[j]? = some s → w.cell? ⟨b, o + j, none⟩ = some (.string s)))
    (hl : l.length ≤ 9223372036854775806) (hS : Hid (∀ s ∈ l, s.size ≤ 9223372036854775806)) (hNB : Hid (NoBad t l)) :
    Calls Try.prog 43 #[.slice none 0 0, .agg #[.int .i64 k0, .int .i64 x0, .string s0, .slice an0 ln0 cn0, .slice ai0 li0 ci0], .slice a l.length c] w (AllR w (getT t l)) := by
  obtain ⟨i5, hi5, hz0, hz1, hz2⟩ := info_parts F25
  obtain ⟨G, hGG⟩ : ∃ G, Hid (getT t l = G) := ⟨_, rfl⟩
  rw [hGG.out]
  go_enter Try.func43, Try.ntmps43
  go_wp2_with fail
  go_loopw [0, 13] (fun f i wr => f = .slice none 0 0 ∧ ∃ (q : Nat) (u : Tr) (k1 x1 : Int) (s1 : ByteArray) (an1 : Option Addr) (ln1 cn1 : Nat) (ai1 : Option Addr) (li1 ci1 : Nat), q ≤ l.length ∧ i = .int .i64 q ∧ Below w.heap.size w wr ∧ wr.heap[w.heap.size]? = some (.cells #[.int .i64 k1, .int .i64 x1, .string s1, .slice an1 ln1 cn1, .slice ai1 li1 ci1] 25 (0, 0)) ∧
      Hid (VRep w u (five k1 x1 s1 (.slice an1 ln1 cn1) (.slice ai1 li1 ci1))) ∧ Hid (G = getT u (l.drop q)) ∧ Hid (getT t (l.take q) = some u)) (fun _ i _ => l.length - (intOf i).toNat)
  case atStart =>
    exact ⟨rfl, 0, t, k0, x0, s0, an0, ln0, cn0, ai0, li0, ci0, Nat.zero_le _, rfl, (Below.refl _ w).alloc (Nat.le_refl _) _, heap_alloc_new w _, hV, hid_f hGG.out.symm, by cases t; rfl⟩
  case round =>
    obtain ⟨rfl, q, u, k1, x1, s1, an1, ln1, cn1, ai1, li1, ci1, hq, rfl, hbel, hb0, hU, hG, hTk⟩ := hrel
    obtain ⟨y0, y1, y2, y3, y4, yf⟩ := row_cells hb0
    by_cases hlt : q < l.length
    · have hd : decide ((q : Int) < (l.length : Int)) = true := by simp; omega
      obtain ⟨b, o, rfl, hbl, hA⟩ := hA.out.resolve_left (by intro e; subst e; simp at hlt)
      obtain ⟨x, hx⟩ : ∃ x, Hid (l[q]? = some x) := ⟨_, List.getElem?_eq_getElem hlt⟩
      have c1 : wr.cell? ⟨b, o + q, none⟩ = some (.string x) := (hbel.cell (p := ⟨b, o + q, none⟩) hbl).trans (hA q x hx.out)
      clear hA
      have hxs : x.size ≤ 9223372036854775806 := hS.out x (List.mem_of_getElem? hx.out)
      have hsp0 := hid_f (hNB.out q u x hTk.out hx.out)
      cases u with
      | node ku xu su nsu itsu =>
        have hU' := hU.out
        unfold VRep at hU'
        obtain ⟨nm, ai, ci, he, hN, hci, hI⟩ := hU'
        obtain ⟨rfl, rfl, rfl, rfl, rfl, rfl, rfl⟩ : k1 = ku ∧ x1 = xu ∧ s1 = su ∧ .slice an1 ln1 cn1 = nm ∧ ai1 = ai ∧ li1 = itsu.length ∧ ci1 = ci := by simpa [five] using he
        clear he
        have hsp := fun W => hid_f (spreads_any k1 x1 s1 an1 ln1 cn1 ai1 itsu.length ci1 x hxs W)
        rw [show spreadB k1 x = false from hsp0.out] at hsp
        have hpl := place_any k1 x1 s1 _ nsu ai1 itsu.length ci1 x wr (hN.keep hbel) hxs
        go_wp2_with fail
        refine hpl.mono ?_
        rintro e w1 ⟨rfl, hb⟩
        clear hpl y0 y1 y2 y3 y4 yf c1
        have hbel1 : Below w.heap.size w w1 := hbel.trans (hb.mono hbel.size)
        replace hb0 := (hb.block _ (Array.getElem?_eq_some_iff.1 hb0).1).trans hb0
        obtain ⟨y0, y1, y2, y3, y4, yf⟩ := row_cells hb0
        replace hG : Hid (G = getT (.node k1 x1 s1 nsu itsu) (x :: l.drop (q + 1))) := by rw [Hid, hG.out, drop_cons hx.out]
        cases hpb : placeB k1 nsu itsu.length x
        · obtain rfl : G = none := hG.out.trans (getT_none (t := .node k1 x1 s1 nsu itsu) hpb)
          clear hpb hU hI hN hG hTk hNB
          go_wp2_with fail
          go_fit (hsp _).out
          rintro e w2 ⟨rfl, hb2⟩
          go_wp2_with fail
          go_ret
          exact ⟨hbel1.trans (hb2.mono hbel1.size), rfl⟩
        · obtain ⟨i, hi, him⟩ := placeB_true hpb
          obtain ⟨b2, o2, rfl, hb2, hI⟩ := hI.resolve_left (by intro e; subst e; simp at him)
          obtain ⟨u', hu'⟩ : ∃ u', itsu[i]? = some u' := ⟨_, List.getElem?_eq_getElem him⟩
          obtain ⟨cs', hcs', hVu⟩ := VRepL.at itsu o2 i u' hI hu'
          obtain ⟨k2, x2, s2, an2, ln2, cn2, ai2, li2, ci2, rfl⟩ := vrep_five hVu
          have g0 := stay hbel1 (hcs' 0 _ rfl)
          have g1 := stay hbel1 (hcs' 1 _ rfl)
          have g2 := stay hbel1 (hcs' 2 _ rfl)
          have g3 := stay hbel1 (hcs' 3 _ rfl)
          have g4 := stay hbel1 (hcs' 4 _ rfl)
          simp only [Nat.add_zero] at g0
          have yf0 := yf 0; have yf1 := yf 1; have yf2 := yf 2; have yf3 := yf 3; have yf4 := yf 4
          clear yf
          have hG2 : Hid (G = getT u' (l.drop (q + 1))) := hG.out.trans (getT_some (t := .node k1 x1 s1 nsu itsu) hpb hi hu')
          have hT2 : Hid (getT t (l.take (q + 1)) = some u') := by rw [Hid, take_snoc hx.out]; exact getT_snoc _ _ _ _ _ i hTk.out hpb hi hu'
          have hVu1 : Hid (VRep w u' (five k2 x2 s2 (.slice an2 ln2 cn2) (.slice ai2 li2 ci2))) := hVu
          rw [hi]
          clear hi hpb hU hI hcs' hVu hN hG hu' hTk hsp
          go_wp2_with fail
          go_roundw
          case rel =>
            exact ⟨rfl, q + 1, u', k2, x2, s2, an2, ln2, cn2, ai2, li2, ci2, by omega, by simp, hbel1.trans (put5_below (Nat.le_refl _) _ _ _ _ _), put5_at hb0 _ _ _ _ _, hVu1, hG2, hT2⟩
          case measure => simp [intOf]; omega
    · have hd : decide ((q : Int) < (l.length : Int)) = false := by simp; omega
      obtain rfl : G = some u := by rw [hG.out, List.drop_of_length_le (by omega)]; cases u; rfl
      clear hG hTk hNB hA yf
      go_wp2_with (at_builtin; refine wpList_append_lies _ rfl _ _ 23 rfl wr.heap.size 25 i5 _ 5 80 Try.underlying23 hi5 hz0 hz1 hz2 rfl (by decide) _ 0 ([] : List Value) rfl (World.ownsRow_nil _ _ _ _) _ 1 1 [.int .i64 k1, .int .i64 x1, .string s1, .slice an1 ln1 cn1, .slice ai1 li1 ci1] rfl rfl (World.news_of_block (heap_alloc_new wr _)) (five_one _ _ _ _ _ _ _ _ _) (by decide) (by unfold maxLen; omega) (by omega) (by simp only [World.size_alloc]; omega) _ rfl ?_; intro g cap w4 hown4 hgrow4 hat4 hlt4; clear hat4)
      go_ret
      replace hgrow4 : (wr.alloc (.cells #[.int .i64 k1, .int .i64 x1, .string s1, .slice an1 ln1 cn1, .slice ai1 li1 ci1] 25)).grownBy w4 none := hgrow4
      have hB4 : Below w.heap.size w w4 := (hbel.alloc hbel.size _).trans (grown_below hgrow4 (by simp only [World.size_alloc]; have := hbel.size; omega) (fun g hg => by cases hg))
      refine ⟨hB4, g, cap, k1, x1, s1, an1, ln1, cn1, ai1, li1, ci1, rfl, fun j v hj => ?_, VRep.keep hB4 _ _ hU.out⟩
      rw [Nat.zero_add]
      exact row_cell hown4 j v hj
set_option maxHeartbeats 1000000 in
theorem all_meets (t : Tr) (k0 x0 : Int) (s0 : ByteArray) (an0 : Option Addr) (ln0 cn0 : Nat) (ai0 : Option Addr) (li0 ci0 : Nat) (a : Option Addr) (c : Nat) (l : List ByteArray) (w : World) (hV : Hid (VRep w t (five k0 x0 s0 (.slice an0 ln0 cn0) (.slice ai0 li0 ci0)))) (hP : Hid (Reads w (.slice a l.length c) l))
    (hl : l.length ≤ 9223372036854775806) (hS : Hid (∀ s ∈ l, s.size ≤ 9223372036854775806)) (hNB : Hid (NoBad t l)) :
    Calls Try.prog 26 #[.agg #[.int .i64 k0, .int .i64 x0, .string s0, .slice an0 ln0 cn0, .slice ai0 li0 ci0], .slice a l.length c] w (AllR w (getT t l)) := by
  obtain ⟨G, hGG⟩ : ∃ G, Hid (getT t l = G) := ⟨_, rfl⟩
  have hg := fun o => hid_f (gather_meets t k0 x0 s0 an0 ln0 cn0 ai0 li0 ci0 a c l (w.alloc o) (hid_f (VRep.keep ((Below.refl _ w).alloc (Nat.le_refl _) o) _ _ hV.out)) (hid_f (by
    obtain ⟨a', c', e, _, h⟩ := hP.out.keep ((Below.refl _ w).alloc (Nat.le_refl _) o)
    cases e
    exact h)) hl hS hNB)
  rw [hGG.out] at hg
  rw [hGG.out]
  clear hV hP
  go_enter Try.func26, Try.ntmps26
  go_wp2_with fail
  go_fit (hg _).out
  rintro e w1 ⟨hb1, h⟩
  cases G with
  | none =>
    simp only at h
    subst h
    go_wp2_with fail
    go_ret
    exact ⟨below_box hb1, rfl⟩
  | some u =>
    obtain ⟨g, cap, k, x, s, an, ln, cn, ai, li, ci, rfl, h1, h2⟩ := h
    go_wp2_with fail
    go_ret
    exact ⟨below_box hb1, g, cap, k, x, s, an, ln, cn, ai, li, ci, rfl, h1, h2⟩
end Go.Proofs.Ytmlbofbnklmedaa
/-! What Copy leans on. -/
namespace Go.Proofs.Ytmlbofbnklmedaa
open Go Go.RowKit

theorem ownsRow_lo {w : World} {lo lo' : Nat} {e : TypeId} {size : Nat} {v : Value} {n : Nat} {xs : List Value} (h : w.ownsRow lo e size v n xs) (hl : lo' ≤ lo) : w.ownsRow lo' e size v n xs := by
  obtain ⟨h1, h2⟩ := h
  refine ⟨h1, ?_⟩
  rcases h2 with h2 | ⟨g, cap, cur, rfl, hg, r⟩
  · exact Or.inl h2
  · exact Or.inr ⟨g, cap, cur, rfl, Nat.le_trans hl hg, r⟩
theorem AV : (Try.prog.info? 25).map (fun i => (i.zero, i.size, i.bytes)) = some (some (.agg #[.int .i64 0, .int .i64 0, .string ⟨#[]⟩, .slice none 0 0, .slice none 0 0]), 5, 80) := by kernel_rfl
theorem step_append_texts {ops : Array Oper} {o : Oper} {a : Act} {K : Act → World → Prop} {Q : Exit → Act → World → Prop} {E : Prop} (w : World) (hgd : o.guard = none) (s x : Operand)
    (ho : o.op = .call { callee := .builtin .append, args := #[s, x], argTypes := #[22, 22] }) (base g : Nat) (hrow : w.ownsRow base 9 1 (.slice (some ⟨g, 0, none⟩) 0 0) 0 [])
    (hs : a.eval s = .slice (some ⟨g, 0, none⟩) 0 0) (vx : Value) (l : List ByteArray) (hx : a.eval x = vx) (hR : Reads w vx l) (hl : l.length * 16 ≤ 140737488355328) (hbase : base ≤ w.heap.size)
    (h : ∀ g' cap w', w'.ownsRow base 9 1 (.slice (some ⟨g', 0, none⟩) l.length cap) l.length (strs l) → w.grownBy w' (some g) → (g' = g ∨ g' = w.heap.size) → K (a.put o.dst (.slice (some ⟨g', 0, none⟩) l.length cap)) w') :
    if Region.wanted o (yielded ops a.tmps) = true then Oper.wp Try.prog o a w K Q else E := by
  obtain ⟨i9, hi9, hz0, hz1, hz2⟩ := info_parts A9
  obtain ⟨ax, c, rfl, hc, hA⟩ := hR
  by_cases h0 : l = []
  · subst h0
    have hw : Region.wanted o (yielded ops a.tmps) = true := by simp [Region.wanted, hgd]
    rw [if_pos hw]
    have hr := run_append_none (P := Try.prog) w 22 o.type 9 i9 Try.underlying22 hi9 g 0 0 (Nat.le_refl _) ax c
    unfold Oper.wp execOp
    have hx' : a.eval x = .slice ax 0 c := hx
    simp only [ho, resolve, invoke, builtin, Sem.run_bind, Sem.run_pure, Result.andThen_ok, List.map_toArray, List.map_cons, List.map_nil, hs, hx', hr]
    exact h g 0 w hrow (World.grownBy.refl w _) (.inl rfl)
  · obtain ⟨b, oo, rfl, hb, hA⟩ := hA.resolve_left h0
    refine step_append_lies w hgd s x 22 ho base 9 i9 _ 1 16 Try.underlying22 hi9 hz0 hz1 hz2 rfl (by decide) _ 0 [] hs hrow _ l.length c (strs l) hx (by rw [strs_length]; omega) (fun j u hu => ?_) (strs1 l) (List.length_pos_iff.2 h0) (by unfold maxLen; omega) (by omega) hbase _ rfl ?_
    · unfold strs at hu
      rw [List.getElem?_map] at hu
      cases hy : l[j]? with
      | none => rw [hy] at hu; cases hu
      | some y =>
        rw [hy] at hu
        cases hu
        rw [add_off]
        exact hA j y hy
    · intro g' cap w' h1 h2 h3 _
      simp only [Nat.zero_add, List.nil_append] at h1 ⊢
      exact h g' cap w' h1 h2 (h3.elim (fun e => .inl (by simpa [Value.ownBlock] using e.symm)) .inr)
/-- Texts that lie in certain blocks. -/
def SeenR (W : World) (S : Nat → Prop) (v : Value) (l : List ByteArray) : Prop := ∀ W', Agree S W W' → Reads W' v l
theorem own_reads {W W' : World} {lo : Nat} {S : Nat → Prop} {g cap : Nat} {l : List ByteArray} (h : W.ownsRow lo 9 1 (.slice (some ⟨g, 0, none⟩) l.length cap) l.length (strs l)) (hS : S g) (ha : Agree S W W') : Reads W' (.slice (some ⟨g, 0, none⟩) l.length cap) l := by
  obtain ⟨h1, h2⟩ := h
  rcases h2 with ⟨hv, _⟩ | ⟨g', cap', cur, hv, hg, hh, hc, hm, hs, hr⟩
  · cases hv
  · cases hv
    refine ⟨_, cap, rfl, ⟨hc, by unfold maxLen at hm; omega⟩, .inr ⟨g, 0, rfl, Nat.lt_of_lt_of_le (Array.getElem?_eq_some_iff.1 hh).1 ha.1, fun j s hj => ha.2 _ _ hS ?_⟩⟩
    have hlt : j < l.length := (List.getElem?_eq_some_iff.1 hj).1
    have : (strs l)[j]? = some (.string s) := by unfold strs; rw [List.getElem?_map, hj]; rfl
    rw [← hr, List.getElem?_take_of_lt (by omega), Array.getElem?_toList] at this
    simp [World.cell?, hh, this]
end Go.Proofs.Ytmlbofbnklmedaa
