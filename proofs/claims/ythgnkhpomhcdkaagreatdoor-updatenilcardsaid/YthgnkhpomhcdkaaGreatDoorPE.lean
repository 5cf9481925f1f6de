import Derived.Test.YthgnkhpomhcdkaaGreatDoorOU
import Derived.Test.YthgnkhpomhcdkaaGreatDoorOV
/-! update: the values of live, plain. -/
namespace Go.Proofs.YthgnkhpomhcdkaaGreatDoor
open Go Go.RowKit Dp

def nB : ByteArray := ⟨#[110]⟩
def tB : ByteArray := ⟨#[116]⟩
def xB : ByteArray := ⟨#[120]⟩
def yB : ByteArray := ⟨#[121]⟩
def incB : ByteArray := ⟨#[36, 105, 110, 99]⟩
def pushB : ByteArray := ⟨#[36, 112, 117, 115, 104]⟩
abbrev docT (n : Int) (l : List Tr) : Tr := .node 6 0 ⟨#[]⟩ [nB, tB] [numT n, listT l]
abbrev opsT : Tr := .node 6 0 ⟨#[]⟩ [incB, pushB] [objT nB (numT 2), objT tB (wordT yB)]
abbrev nullT : Tr := .node 0 0 ⟨#[]⟩ [] []
theorem plain_n : Plain1 nB 110 := ⟨rfl, by decide, by decide, by decide⟩
theorem plain_t : Plain1 tB 116 := ⟨rfl, by decide, by decide, by decide⟩
theorem plain_x : Plain1 xB 120 := ⟨rfl, by decide, by decide, by decide⟩
theorem plain_y : Plain1 yB 121 := ⟨rfl, by decide, by decide, by decide⟩
theorem get_n (n : Int) (l : List Tr) : getT (docT n l) [nB] = some (numT n) := by
  simp [getT, placeT, placeB, placeI, Tr.kind, Tr.names, Tr.items, Lib.idxOfS, Lib.idxFromS]
theorem get_t (n : Int) (l : List Tr) : getT (docT n l) [tB] = some (listT l) := by
  simp [getT, placeT, placeB, placeI, Tr.kind, Tr.names, Tr.items, Lib.idxOfS, Lib.idxFromS, nB, tB]
theorem get_e : getT (objT nB (wordT xB)) [nB] = some (wordT xB) := by
  simp [getT, placeT, placeB, placeI, Tr.kind, Tr.names, Tr.items, Lib.idxOfS, Lib.idxFromS, objT]
theorem down_n (n : Int) (l : List Tr) : downT (docT n l) [nB] = (0, [(docT n l, nB, 0)]) := by
  simp [downT, placeB, placeI, Tr.kind, Tr.names, Tr.items, Lib.idxOfS, Lib.idxFromS]
theorem down_t (n : Int) (l : List Tr) : downT (docT n l) [tB] = (0, [(docT n l, tB, 1)]) := by
  simp [downT, placeB, placeI, Tr.kind, Tr.names, Tr.items, Lib.idxOfS, Lib.idxFromS, nB, tB]
theorem set_n (n m : Int) (l : List Tr) : setT (docT n l) [nB] (numT m) = docT m l := by
  unfold setT
  rw [down_n]
  simp [upS, nestS, withT, Tr.kind, Tr.names, Tr.items, keepIts, keepNs]
theorem set_t (n : Int) (l l' : List Tr) : setT (docT n l) [tB] (listT l') = docT n l' := by
  unfold setT
  rw [down_t]
  simp [upS, nestS, withT, Tr.kind, Tr.names, Tr.items, keepIts, keepNs]
theorem check_d5 : checkT 0 (docT 5 [wordT xB]) = 0 := by kernel_rfl
theorem check_d7 : checkT 0 (docT 7 [wordT xB]) = 0 := by kernel_rfl
theorem check_r2 : checkT 0 (docT 7 [wordT xB, wordT yB]) = 0 := by kernel_rfl
theorem check_e : checkT 0 (objT nB (wordT xB)) = 0 := by kernel_rfl
theorem check_ops : checkT 0 opsT = 0 := by kernel_rfl
theorem check_null : checkT 0 nullT = 0 := by kernel_rfl
theorem sz_0 : (⟨#[]⟩ : ByteArray).size ≤ 140737488351232 := by decide
theorem sz_n : nB.size = 1 := rfl
theorem sz_t : tB.size = 1 := rfl
theorem sz_x : xB.size = 1 := rfl
theorem sz_y : yB.size = 1 := rfl
theorem sz_i : incB.size = 4 := rfl
theorem sz_p : pushB.size = 5 := rfl
theorem small_doc (n : Int) (l : List Tr) (hl : l = [wordT xB] ∨ l = [wordT xB, wordT yB]) : SmallT (docT n l) := by
  rcases hl with rfl | rfl
  all_goals simp [sz_0, SmallT, SmallL, numT, listT, wordT, sz_n, sz_t, sz_x, sz_y]
theorem small_e : SmallT (objT nB (wordT xB)) := by
  simp [sz_0, SmallT, SmallL, objT, wordT, sz_n, sz_x]
theorem small_ops : SmallT opsT := by
  simp [sz_0, SmallT, SmallL, objT, wordT, numT, sz_n, sz_t, sz_y, sz_i, sz_p]
theorem small_null : SmallT nullT := by
  simp [sz_0, SmallT, SmallL]
theorem names_plain' : ∀ m ∈ [nB, tB], ∃ c, Plain1 m c := by
  intro m hm
  rcases List.mem_cons.1 hm with rfl | hm
  · exact ⟨_, plain_n⟩
  · rw [List.mem_singleton.1 hm]; exact ⟨_, plain_t⟩
theorem sh_doc (n : Int) (h0 : 0 ≤ n) (h1 : n < 10) (l : List Tr) (hl : l = [wordT xB] ∨ l = [wordT xB, wordT yB]) : Sh 48 (docT n l) := by
  have hL : Sh 18 (listT l) := by
    refine sh_nest 3 (by decide) 5 0 (.inl rfl) _ [] l (by decide) (by rcases hl with rfl | rfl <;> decide) (fun m hm => by cases hm) (fun u hu => ?_)
    rcases hl with rfl | rfl
    · rw [List.mem_singleton.1 hu]; exact sh_word _ _ plain_x
    · rcases List.mem_cons.1 hu with rfl | hu
      · exact sh_word _ _ plain_x
      · rw [List.mem_singleton.1 hu]; exact sh_word _ _ plain_y
  refine sh_nest 18 (by decide) 6 0 (.inr rfl) _ [nB, tB] [numT n, listT l] (by decide) (by simp) names_plain' (fun u hu => ?_)
  rcases List.mem_cons.1 hu with rfl | hu
  · intro ds w hV
    refine (sh_num n h0 h1 ds w hV).mono ?_
    rintro e w' ⟨m, he, hm, hb⟩
    exact ⟨m, he, by omega, hb⟩
  · rw [List.mem_singleton.1 hu]; exact hL
theorem sh_e : Sh 18 (objT nB (wordT xB)) :=
  sh_nest 3 (by decide) 6 0 (.inr rfl) _ [nB] [wordT xB] (by decide) (by decide) (fun m hm => by rw [List.mem_singleton.1 hm]; exact ⟨_, plain_n⟩) (fun u hu => by rw [List.mem_singleton.1 hu]; exact sh_word _ _ plain_x)
theorem differ : eqT (docT 7 [wordT xB, wordT yB]) (docT 5 [wordT xB]) = false := eqT_false (by
  intro h
  simp [numT] at h)
theorem sized_n : Sized [nB] := fun s hs => by rw [List.mem_singleton.1 hs]; decide
theorem sized_t : Sized [tB] := fun s hs => by rw [List.mem_singleton.1 hs]; decide
theorem room_n (n : Int) (l : List Tr) : ∀ st ∈ (downT (docT n l) [nB]).2, (st.1.items.length + 1) * 80 ≤ 140737488355328 := by
  rw [down_n]
  intro st hs
  rw [List.mem_singleton.1 hs]
  show (2 + 1) * 80 ≤ 140737488355328
  decide
theorem room_t (n : Int) (l : List Tr) : ∀ st ∈ (downT (docT n l) [tB]).2, (st.1.items.length + 1) * 80 ≤ 140737488355328 := by
  rw [down_t]
  intro st hs
  rw [List.mem_singleton.1 hs]
  show (2 + 1) * 80 ≤ 140737488355328
  decide
theorem seg_n : Dp.seg nB = true := by decide
theorem seg_t : Dp.seg tB = true := by decide
theorem split_n : Lib.splitB ⟨#[46]⟩ 0 (min 17 (nB.size + 1) - 1) nB = [nB] := by kernel_rfl
theorem split_t : Lib.splitB ⟨#[46]⟩ 0 (min 17 (tB.size + 1) - 1) tB = [tB] := by kernel_rfl
theorem first_n : Dp.byteAt nB 0 ≠ 36 := by decide
theorem first_t : Dp.byteAt tB 0 ≠ 36 := by decide
end Go.Proofs.YthgnkhpomhcdkaaGreatDoor
/-! update: Parse of live's operators. -/
namespace Go.Proofs.YthgnkhpomhcdkaaGreatDoor
open Go Go.RowKit Dp

theorem obj_one {w : World} {s : ByteArray} {t : Tr} {x : V5} (h : VRep w (objT s t) x.cs) : x.k = 6 ∧ x.ln = 1 ∧ x.li = 1 ∧ ∃ ga oa gi oi u, x.an = some ⟨ga, oa, none⟩ ∧ x.ai = some ⟨gi, oi, none⟩ ∧ w.cell? ⟨ga, oa, none⟩ = some (.string s) ∧ VRep w t (V5.cs u) ∧ ∀ j v, (V5.cs u)[j]? = some v → w.cell? ⟨gi, oi + j, none⟩ = some v := by
  unfold objT VRep at h
  obtain ⟨nm, a, c, h1, ⟨an, cn, rfl, hn1, hn⟩, h3, h4⟩ := h
  unfold V5.cs five at h1
  simp only [List.cons.injEq, Value.int.injEq, Value.slice.injEq] at h1
  obtain ⟨⟨-, hk⟩, -, -, ⟨han, hln, -⟩, ⟨hai, hli, -⟩, -⟩ := h1
  rcases hn with hn | ⟨ga, oa, e1, -, hnc⟩
  · cases hn
  rcases h4 with h4 | ⟨gi, oi, e2, -, h7⟩
  · cases h4
  unfold VRepL at h7
  obtain ⟨cs, h8, h9, -⟩ := h7
  obtain ⟨u, rfl⟩ := v5_of h9
  exact ⟨hk, by simpa using hln, by simpa using hli, ga, oa, gi, oi, u, by rw [han, e1], by rw [hai, e2], by simpa using hnc 0 s rfl, h9, h8⟩
theorem obj_two {w : World} {s1 s2 : ByteArray} {t1 t2 : Tr} {x : V5} (h : VRep w (.node 6 0 ⟨#[]⟩ [s1, s2] [t1, t2]) x.cs) : x.k = 6 ∧ x.ln = 2 ∧ x.li = 2 ∧ ∃ ga oa gi oi u1 u2, x.an = some ⟨ga, oa, none⟩ ∧ x.ai = some ⟨gi, oi, none⟩ ∧ w.cell? ⟨ga, oa, none⟩ = some (.string s1) ∧ w.cell? ⟨ga, oa + 1, none⟩ = some (.string s2) ∧ VRep w t1 (V5.cs u1) ∧ VRep w t2 (V5.cs u2) ∧ (∀ j v, (V5.cs u1)[j]? = some v → w.cell? ⟨gi, oi + j, none⟩ = some v) ∧ (∀ j v, (V5.cs u2)[j]? = some v → w.cell? ⟨gi, oi + 5 + j, none⟩ = some v) := by
  unfold VRep at h
  obtain ⟨nm, a, c, h1, ⟨an, cn, rfl, hn1, hn⟩, h3, h4⟩ := h
  unfold V5.cs five at h1
  simp only [List.cons.injEq, Value.int.injEq, Value.slice.injEq] at h1
  obtain ⟨⟨-, hk⟩, -, -, ⟨han, hln, -⟩, ⟨hai, hli, -⟩, -⟩ := h1
  rcases hn with hn | ⟨ga, oa, e1, -, hnc⟩
  · cases hn
  rcases h4 with h4 | ⟨gi, oi, e2, -, h7⟩
  · cases h4
  unfold VRepL at h7
  obtain ⟨cs, h8, h9, h7⟩ := h7
  unfold VRepL at h7
  obtain ⟨cs2, h8', h9', -⟩ := h7
  obtain ⟨u, rfl⟩ := v5_of h9
  obtain ⟨u2, rfl⟩ := v5_of h9'
  exact ⟨hk, by simpa using hln, by simpa using hli, ga, oa, gi, oi, u, u2, by rw [han, e1], by rw [hai, e2], by simpa using hnc 0 s1 rfl, by simpa using hnc 1 s2 rfl, h9, h9', h8, h8'⟩
def PInc (w : World) (m : Nat) (caps : Array Value) : Prop := m = 122 ∧ ∃ (b : Nat) (a : V5), caps = #[.pointer (some ⟨b + 1, 0, none⟩), .pointer (some ⟨b + 2, 0, none⟩)] ∧ a.x = 2 ∧ IncAt w b a
def PPush (w : World) (m : Nat) (caps : Array Value) : Prop := m = 138 ∧ ∃ n c bn bi : Nat, caps = #[.pointer (some ⟨n, 0, none⟩), .pointer (some ⟨n + 2, 0, none⟩)] ∧ PushT w n c bn bi (wordT yB)
theorem PInc.keep : ∀ w w' m caps, PInc w m caps → FrT w w' → PInc w' m caps := fun _ _ _ _ ⟨h1, b, a, h2, h3, h4⟩ hf => ⟨h1, b, a, h2, h3, h4.keepT hf⟩
theorem PPush.keep : ∀ w w' m caps, PPush w m caps → FrT w w' → PPush w' m caps := fun _ _ _ _ ⟨h1, n, c, bn, bi, h2, h3⟩ hf => ⟨h1, n, c, bn, bi, h2, h3.keepT hf⟩
theorem enters_isInt : ∀ args w, (callFunc 38 args).run Tryz.prog w = .ok (.enter 38 args) w := enters_of Tryz.func38 (by kernel_rfl) rfl
theorem enters_isPushed : ∀ args w, (callFunc 46 args).run Tryz.prog w = .ok (.enter 46 args) w := enters_of Tryz.func46 (by kernel_rfl) rfl
/-- The first term. -/
theorem term_n (R lo n : Nat) (vs mv : Value) (u : V5) (w : World) (hE : EnvU w) (hR : RdAt w R lo vs mv (.slice none 0 0) (.slice none 0 0) [] []) (hV : VerbsAt w n) (hu : VRep w (numT 2) u.cs) :
    Calls Tryz.prog 154 #[.pointer (some ⟨R, 0, none⟩), .agg #[fn0 38, fn1 70 (n + 2)], .string nB, u.v] w (TermPost PInc R lo vs mv [] [] nB w) := by
  obtain ⟨hk, hx⟩ := num_five hu
  obtain ⟨m, hm⟩ := hE.mx
  refine term_any PInc PInc.keep R lo vs mv _ _ [] [] 38 (n + 2) nB u w hR (by decide) (by decide) (hid_of (fun W hb => readPath_blk nB m W (stay hb hm) (hid_of seg_n) (by decide) (hid_of split_n))) enters_isInt (hid_of (fun W => (isInt_any u W).mono fun e w' h => ⟨by rw [h.1, hk]; rfl, h.2⟩)) (hid_of (fun W g c hb => ?_)) (hid_of (fun W g c hb hp hc => ?_))
  · refine (term_inc g c (n + 2) u W (cell_of (block_keep hV.b2 hb) 0)).mono ?_
    rintro e w' ⟨h1, b, h2, h3⟩
    exact ⟨h1, _, _, h2, rfl, b, u, rfl, hx, h3⟩
  · refine (against_none none 0 g c W).mono ?_
    rintro e w' ⟨h1, rfl⟩
    exact ⟨h1, Below.refl _ _⟩
/-- The second term. -/
theorem term_t (R lo n g1 c1 : Nat) (vs mv tv pv x1 : Value) (u : V5) (w : World) (hE : EnvU w) (hR : RdAt w R lo vs mv tv pv [x1] [pathV g1 c1]) (hp1 : PthAt w g1 nB) (hc1 : 1 ≤ c1 ∧ c1 ≤ 17) (hV : VerbsAt w n) (hu : VRep w (wordT yB) u.cs) :
    Calls Tryz.prog 154 #[.pointer (some ⟨R, 0, none⟩), .agg #[fn0 46, fn1 70 (n + 8)], .string tB, u.v] w (TermPost PPush R lo vs mv [x1] [pathV g1 c1] tB w) := by
  have hk : u.k ≠ 6 := by rw [word_five hu]; decide
  obtain ⟨m, hm⟩ := hE.mx
  have hps := hR.ps
  obtain ⟨hxl, hx | ⟨gp, cap, cur, hpv, hge, hcur, hle, hmx, hsz, htk⟩⟩ := id hps
  · exact absurd hx.2 (by simp)
  subst hpv
  have d0 : cur[0]? = some (pathV g1 c1) := by
    have := congrArg (fun l => l[0]?) htk
    simpa using this
  refine term_any PPush PPush.keep R lo vs mv _ _ [x1] [pathV g1 c1] 46 (n + 8) tB u w hR (by simp) (by simp) (hid_of (fun W hb => readPath_blk tB m W (stay hb hm) (hid_of seg_t) (by decide) (hid_of split_t))) enters_isPushed (hid_of (fun W => isPushed_plain u hk W)) (hid_of (fun W g c hb => ?_)) (hid_of (fun W g c hb hp hc => ?_))
  · refine (term_push2 g c (n + 8) (wordT yB) u hk W ⟨fun _ => False, fun W' _ => word_any_rep hu W', fun _ h => h.elim⟩ (cell_of (block_keep hV.b8 hb) 0)).mono ?_
    rintro e w' ⟨h1, b, c', bn, bi, h2, h3⟩
    exact ⟨h1, _, _, h2, rfl, b, c', bn, bi, rfl, h3⟩
  · exact against_one gp cap g1 c1 g c W (stay hb ((cell_of hcur 0).trans d0)) (hid_of (clashes_not g c g1 c1 tB nB hc.1 hc1.1 (by omega) (by omega) W hp.cell (hp1.keep (FrT.of hb)).cell (hid_of (fun w' => areLike_not tB nB (by decide) (by decide) (by decide) first_t first_n w'))))
end Go.Proofs.YthgnkhpomhcdkaaGreatDoor
/-! update: Parse of live's operators, whole. -/
namespace Go.Proofs.YthgnkhpomhcdkaaGreatDoor
open Go Go.RowKit Dp

theorem vrep_null (w : World) : VRep w nullT (five 0 0 ⟨#[]⟩ (.slice none 0 0) (.slice none 0 0)) := by
  unfold VRep
  exact ⟨_, none, 0, rfl, ⟨none, 0, rfl, ⟨Nat.le_refl _, by omega⟩, .inl rfl⟩, ⟨Nat.le_refl _, by omega⟩, .inl rfl⟩
theorem check_ops_any (o : V5) (w : World) (hE : EnvU w) (ho : VRep w opsT o.cs) : Calls Tryz.prog 55 #[o.v] w fun e w' => e = .returned (.int .i64 0) ∧ Below w.heap.size w w' := by
  have h := check_code opsT o.k o.x o.s o.an o.ln o.cn o.ai o.li o.ci w ho small_ops hE.tabs hE.big
  rw [check_ops] at h
  exact h
theorem check_null_any (w : World) (hE : EnvU w) : Calls Tryz.prog 55 #[nullV] w fun e w' => e = .returned (.int .i64 0) ∧ Below w.heap.size w w' := by
  have h := check_code nullT 0 0 ⟨#[]⟩ none 0 0 none 0 0 w (vrep_null w) small_null hE.tabs hE.big
  rw [check_null] at h
  exact h
theorem parse_live (o : V5) (w : World) (hE : EnvU w) (ho : VRep w opsT o.cs) :
    Calls Tryz.prog 16 #[o.v, nullV] w fun e w' => Below w.heap.size w w' ∧ ∃ b lo g1 c1 m1 g2 c2 m2 caps1 caps2 tv mv, e = .returned (.tuple #[.pointer (some ⟨b, 0, none⟩), .int .i64 0, .int .i64 0]) ∧ UpAt PInc PPush w' b lo g1 c1 m1 g2 c2 m2 caps1 caps2 tv mv nB tB := by
  obtain ⟨hk, hln, hli, ga, oa, gi, oi, x1, x2, han, hai, hn1, hn2, hx1, hx2, hi1, hi2⟩ := obj_two ho
  obtain ⟨k1, l1, j1, ga1, oa1, gi1, oi1, u1, an1, ai1, n1, r1, q1⟩ := obj_one hx1
  obtain ⟨k2, l2, j2, ga2, oa2, gi2, oi2, u2, an2, ai2, n2, r2, q2⟩ := obj_one hx2
  have b0 : ga < w.heap.size := lt_of_cell hn1
  have b1 : gi < w.heap.size := lt_of_cell (hi1 0 _ rfl)
  have b2 : gi1 < w.heap.size := lt_of_cell (q1 0 _ rfl)
  have b3 : gi2 < w.heap.size := lt_of_cell (q2 0 _ rfl)
  refine parse_any2 PInc PPush PInc.keep PPush.keep nB tB o w (hid_of fun W R n mv hb hR hV hRw => ?_)
  have hRW : R < W.heap.size := (Array.getElem?_eq_some_iff.1 hR.box).1
  refine read_any PInc PPush PInc.keep PPush.keep R (R + 1) _ mv nB tB o W (by decide) first_n (by decide) first_t (Nat.le_of_lt hRW) (hid_of fun W' hb' => ?_) (hid_of fun W' hb' => ?_) (hid_of fun W' hb' => ?_)
  · have hw := hb.trans (hb'.mono hb.size)
    exact check_ops_any o W' (hE.keep hw) (VRep.keep hw _ _ ho)
  · exact check_null_any W' (hE.keep (hb.trans (hb'.mono hb.size)))
  · have hw := hb.trans (hb'.mono hb.size)
    have hs' := hb'.size
    refine operators_any PInc PPush PInc.keep R (R + 1) n mv _ _ nB tB x1 x2 o ga oa gi oi W' hk hln hli han hai (stay hw hn1) (stay hw hn2) (fun j v h => stay hw (hi1 j v h)) (fun j v h => stay hw (hi2 j v h)) (by omega) (by omega) (hR.keep hb') (hV.keepT (FrT.of hb')) (hid_of fun W2 hb2 => ?_) (hid_of fun W2 g c m caps tv pv hR2 hp2 hc2 hP2 hF2 hBR => ?_)
    · have hw2 := hw.trans (hb2.mono hw.size)
      have hs2 := hb2.size
      refine given_any PInc PInc.keep R (R + 1) _ mv [] [] _ _ nB u1 x1 ga1 oa1 gi1 oi1 W2 k1 l1 j1 an1 ai1 (stay hw2 n1) (fun j v h => stay hw2 (q1 j v h)) (by omega) (by omega) (hid_of fun W3 hb3 => ?_)
      have hw3 := hw2.trans (hb3.mono hw2.size)
      have hbw := hb'.trans ((hb2.trans (hb3.mono hb2.size)).mono hb'.size)
      exact term_n R (R + 1) n _ mv u1 W3 (hE.keep hw3) (hR.keep hbw) (hV.keepT (FrT.of hbw)) (VRep.keep hw3 _ _ r1)
    · have hw2 : Below w.heap.size w W2 := hw.trans (hBR.mono (by omega))
      have hs2 := hBR.size
      refine given_any PPush PPush.keep R (R + 1) _ mv _ _ _ _ tB u2 x2 ga2 oa2 gi2 oi2 W2 k2 l2 j2 an2 ai2 (stay hw2 n2) (fun j v h => stay hw2 (q2 j v h)) (by omega) (by omega) (hid_of fun W3 hb3 => ?_)
      have hw3 := hw2.trans (hb3.mono hw2.size)
      exact term_t R (R + 1) n g c _ mv tv pv _ u2 W3 (hE.keep hw3) (hR2.keep hb3) (hp2.keep (FrT.of hb3)) hc2 ((hV.keepT (FrT.of hb')).keepT (hF2.trans (FrT.of hb3))) (VRep.keep hw3 _ _ r2)
end Go.Proofs.YthgnkhpomhcdkaaGreatDoor
/-! update: Apply of live's update to live's documents. -/
namespace Go.Proofs.YthgnkhpomhcdkaaGreatDoor
open Go Go.RowKit Dp

theorem enters_reckon : ∀ args w, (callFunc 122 args).run Tryz.prog w = .ok (.enter 122 args) w := enters_of Tryz.func122 (by kernel_rfl) rfl
theorem enters_enlist : ∀ args w, (callFunc 138 args).run Tryz.prog w = .ok (.enter 138 args) w := enters_of Tryz.func138 (by kernel_rfl) rfl
theorem apply_live_ok (ub lo g1 c1 m1 g2 c2 m2 : Nat) (caps1 caps2 : Array Value) (tv mv : Value) (u : V5) (w : World) (hE : EnvU w) (hU : UpAt PInc PPush w ub lo g1 c1 m1 g2 c2 m2 caps1 caps2 tv mv nB tB) (hV : VRep w (docT 5 [wordT xB]) u.cs) :
    Calls Tryz.prog 8 #[.pointer (some ⟨ub, 0, none⟩), u.v, .bool false] w fun e w' => Below w.heap.size w w' ∧ ∃ y : V5, e = .returned (.tuple #[y.v, .bool true, .int .i64 0, .int .i64 0]) ∧ VRep w' (docT 7 [wordT xB, wordT yB]) y.cs := by
  obtain ⟨rfl, b, a, rfl, hax, hI⟩ := hU.d1
  obtain ⟨rfl, n, c, bn, bi, rfl, hP⟩ := hU.d2
  have hS0 : ∀ W, Below w.heap.size w W → Seen W (· < w.heap.size) (docT 5 [wordT xB]) u.cs := fun W hb => (seen_rep hV).keep hb
  have h := apply_ok (docT 5 [wordT xB]) (docT 7 [wordT xB, wordT yB]) ub false u (· < w.heap.size) w (fun k hk => hk) hV (small_doc 7 _ (.inr rfl)) (fun W hb => by
    have hs := hb.size
    refine behindAll_ok (docT 7 [wordT xB]) (docT 7 [wordT xB, wordT yB]) ub lo g1 c1 _ g2 c2 _ _ _ tv mv false u _ W (fun k hk => Nat.lt_of_lt_of_le hk hs) (block_keep hU.box hb) (ownsRow_below hU.ts hb) (hid_of fun W1 hb1 => ?_) (hid_of fun W1 hb1 => ?_) (hid_of fun W1 y S1 hb1 hS1 hY => ?_)
    · have hw := hb.trans (hb1.mono hb.size)
      exact doc_ok _ 48 (by decide) u W1 (kind_of (VRep.keep hw _ _ hV)) (VRep.keep hw _ _ hV) (small_doc 5 _ (.inl rfl)) check_d5 (sh_doc 5 (by decide) (by decide) _ (.inl rfl)) (hE.keep hw)
    · have hw := hb.trans (hb1.mono hb.size)
      refine behind_ok (docT 7 [wordT xB]) 48 (by decide) _ _ ub g1 c1 false u _ W1 (fun k hk => Nat.lt_of_lt_of_le hk hw.size) rfl (small_doc 7 _ (.inl rfl)) check_d7 (sh_doc 7 (by decide) (by decide) _ (.inl rfl)) (hE.keep hw) (hid_of fun W2 hb2 => ?_)
      have hw2 := hw.trans (hb2.mono hw.size)
      refine changed_ok (docT 7 [wordT xB]) 122 _ _ ub g1 c1 tv mv nB (by decide) first_n u _ W2 (fun k hk => Nat.lt_of_lt_of_le hk hw2.size) enters_reckon (block_keep hU.box hw2) (hU.p1.keep (FrT.of hw2)).cell (hid_of fun W3 pv hb3 hR => ?_)
      have hw3 := hw2.trans (hb3.mono hw2.size)
      have hi := inc_hit (docT 5 [wordT xB]) u a 5 b pv [nB] _ W3 (fun k hk => Nat.lt_of_lt_of_le hk hw3.size) (hS0 W3 hw3) hR (by decide) (hid_of sized_n) (room_n _ _) (by rw [down_n]) (get_n _ _) (hI.keep hw3) (by rw [hax]; decide) (by rw [hax]; decide)
      rw [hax, set_n] at hi
      exact hi
    · have hw := hb.trans (hb1.mono hb.size)
      refine behind_ok (docT 7 [wordT xB, wordT yB]) 48 (by decide) _ _ ub g2 c2 false y S1 W1 hS1 rfl (small_doc 7 _ (.inr rfl)) check_r2 (sh_doc 7 (by decide) (by decide) _ (.inr rfl)) (hE.keep hw) (hid_of fun W2 hb2 => ?_)
      have hw2 := hw.trans (hb2.mono hw.size)
      refine changed_ok (docT 7 [wordT xB, wordT yB]) 138 _ _ ub g2 c2 tv mv tB (by decide) first_t y S1 W2 (fun k hk => Nat.lt_of_lt_of_le (hS1 k hk) hb2.size) enters_enlist (block_keep hU.box hw2) (hU.p2.keep (FrT.of hw2)).cell (hid_of fun W3 pv hb3 hR => ?_)
      have hw3 := hw2.trans (hb3.mono hw2.size)
      have hi := push_hit (docT 7 [wordT xB]) y xB yB n c bn bi pv [tB] S1 W3 (fun k hk => Nat.lt_of_lt_of_le (hS1 k hk) (Nat.le_trans hb2.size hb3.size)) (hY.keep (hb2.trans (hb3.mono hb2.size))) hR (by decide) (hid_of sized_t) (room_t _ _) (by rw [down_t]) (get_t _ _) (hP.keepT (FrT.of hw3))
      rw [set_t] at hi
      exact hi)
  rw [differ] at h
  exact h
theorem apply_live_err (ub lo g1 c1 m1 g2 c2 m2 : Nat) (caps1 caps2 : Array Value) (tv mv : Value) (u : V5) (w : World) (hE : EnvU w) (hU : UpAt PInc PPush w ub lo g1 c1 m1 g2 c2 m2 caps1 caps2 tv mv nB tB) (hV : VRep w (objT nB (wordT xB)) u.cs) :
    Calls Tryz.prog 8 #[.pointer (some ⟨ub, 0, none⟩), u.v, .bool false] w fun e w' => e = .returned (.tuple #[nullV, .bool false, .int .i64 56, .int .i64 0]) ∧ Below w.heap.size w w' := by
  obtain ⟨rfl, b, a, rfl, hax, hI⟩ := hU.d1
  obtain ⟨rfl, n, c, bn, bi, rfl, hP⟩ := hU.d2
  refine apply_err 56 ub false u w hE (fun W hb => ?_)
  refine behindAll_err 56 ub lo g1 c1 _ g2 c2 _ _ _ tv mv false u W (block_keep hU.box hb) (ownsRow_below hU.ts hb) (hid_of fun W1 hb1 => ?_) (hid_of fun W1 hb1 => ?_)
  · have hw := hb.trans (hb1.mono hb.size)
    exact doc_ok _ 18 (by decide) u W1 (kind_of (VRep.keep hw _ _ hV)) (VRep.keep hw _ _ hV) small_e check_e sh_e (hE.keep hw)
  · have hw := hb.trans (hb1.mono hb.size)
    refine behind_err 56 _ _ ub g1 c1 false u W1 (hid_of fun W2 hb2 => ?_)
    have hw2 := hw.trans (hb2.mono hw.size)
    refine changed_err 56 122 _ _ ub g1 c1 tv mv nB (by decide) first_n u W2 enters_reckon (block_keep hU.box hw2) (hU.p1.keep (FrT.of hw2)).cell (hid_of fun W3 pv hb3 hR => ?_)
    have hw3 := hw2.trans (hb3.mono hw2.size)
    exact inc_not (objT nB (wordT xB)) u xB b pv [nB] W3 (VRep.keep hw3 _ _ hV) hR (by decide) (hid_of sized_n) get_e
end Go.Proofs.YthgnkhpomhcdkaaGreatDoor
/-! update: live. -/
namespace Go.Proofs.YthgnkhpomhcdkaaGreatDoor
open Go Go.RowKit Dp

theorem obj2_rep {w : World} {s1 s2 : ByteArray} {t1 t2 : Tr} {v1 v2 : V5} {gn gi : Nat} (hn : w.heap[gn]? = some (.cells #[.string s1, .string s2] 9)) (hi : w.heap[gi]? = some (.cells #[.int .i64 v1.k, .int .i64 v1.x, .string v1.s, .slice v1.an v1.ln v1.cn, .slice v1.ai v1.li v1.ci, .int .i64 v2.k, .int .i64 v2.x, .string v2.s, .slice v2.an v2.ln v2.cn, .slice v2.ai v2.li v2.ci] 28)) (h1 : VRep w t1 v1.cs) (h2 : VRep w t2 v2.cs) :
    VRep w (.node 6 0 ⟨#[]⟩ [s1, s2] [t1, t2]) (V5.cs ⟨6, 0, ⟨#[]⟩, some ⟨gn, 0, none⟩, 2, 2, some ⟨gi, 0, none⟩, 2, 2⟩) := by
  unfold VRep V5.cs
  refine ⟨_, _, 2, rfl, ⟨_, 2, rfl, ⟨Nat.le_refl _, by decide⟩, .inr ⟨gn, 0, rfl, (Array.getElem?_eq_some_iff.1 hn).1, fun j v hj => ?_⟩⟩, ⟨Nat.le_refl _, by decide⟩, ?_⟩
  · rw [cell_of hn]
    rcases j with _ | _ | j
    · obtain rfl : s1 = v := by simpa using hj
      rfl
    · obtain rfl : s2 = v := by simpa using hj
      rfl
    · simp at hj
  · rcases row_two h1 h2 hi with h | ⟨b, o, he, hb, hr⟩
    · cases h
    · exact .inr ⟨b, o, he, hb, hr⟩
theorem UpAt.keep {P1 P2 : World → Nat → Array Value → Prop} {w w' : World} {b lo g1 c1 m1 g2 c2 m2 : Nat} {k1 k2 : Array Value} {tv mv : Value} {s1 s2 : ByteArray} (h : UpAt P1 P2 w b lo g1 c1 m1 g2 c2 m2 k1 k2 tv mv s1 s2) (hb : Below w.heap.size w w') (hP1 : ∀ w w' m caps, P1 w m caps → FrT w w' → P1 w' m caps) (hP2 : ∀ w w' m caps, P2 w m caps → FrT w w' → P2 w' m caps) : UpAt P1 P2 w' b lo g1 c1 m1 g2 c2 m2 k1 k2 tv mv s1 s2 :=
  ⟨block_keep h.box hb, ownsRow_below h.ts hb, h.p1.keep (FrT.of hb), h.p2.keep (FrT.of hb), h.r1, h.r2, hP1 _ _ _ _ h.d1 (FrT.of hb), hP2 _ _ _ _ h.d2 (FrT.of hb)⟩
theorem list_two {w : World} {a b : Tr} {u : V5} (h : VRep w (listT [a, b]) u.cs) : u.li = 2 := by
  unfold listT VRep V5.cs five at h
  obtain ⟨nm, x, c, h1, -⟩ := h
  simp only [List.cons.injEq, Value.slice.injEq] at h1
  simpa using h1.2.2.2.2.1.2.1
set_option maxHeartbeats 8000000 in
set_option maxRecDepth 100000 in
theorem live_true (w : World) (hE : EnvU w) : Calls Tryz.prog 6 #[] w fun e w' => e = .returned (.bool true) ∧ Below w.heap.size w w' := by
  have hB0 := hid_of (Below.refl w.heap.size w)
  replace hE := hid_of hE
  go_enter Tryz.func6, Tryz.ntmps6
  go_wp2_with fail
  have A0 := hid_of (heap_alloc_new w (.cells #[.string incB, .string pushB] 9))
  have HB0 := hid_of ((Below.refl w.heap.size w).alloc (Nat.le_refl _) (.cells #[.string incB, .string pushB] 9))
  refine (number_any 2 _).mono ?_
  rintro e W1 ⟨rfl, hb1⟩
  have A1 := hid_of (block_keep A0.out hb1)
  have HB1 := hid_of (HB0.out.trans (hb1.mono HB0.out.size))
  clear hb1 A0 HB0 hB0
  unfold V5.v numU
  dsimp only
  go_wp2_with fail
  refine (object_v nB (numT 2) (numU 2) W1 (vrep_num _ _)).mono ?_
  rintro e W2 ⟨hb2, bn1, bi1, rfl, hV2⟩
  have A2 := hid_of (block_keep A1.out hb2)
  have HB2 := hid_of (HB1.out.trans (hb2.mono HB1.out.size))
  replace hV2 := hid_of hV2
  clear hb2 A1 HB1
  unfold V5.v objU
  dsimp only
  go_wp2_with fail
  refine (word_any yB _).mono ?_
  rintro e W3 ⟨rfl, hb3⟩
  have A3 := hid_of (block_keep A2.out hb3)
  have HB3 := hid_of (HB2.out.trans (hb3.mono HB2.out.size))
  have hV3 := hid_of (VRep.keep hb3 _ _ hV2.out)
  clear hb3 A2 HB2 hV2
  unfold V5.v wordU
  dsimp only
  go_wp2_with fail
  refine (object_v tB (wordT yB) (wordU yB) W3 (vrep_word _ _)).mono ?_
  rintro e W4 ⟨hb4, bn2, bi2, rfl, hV4⟩
  have A4 := hid_of (block_keep A3.out hb4)
  have HB4 := hid_of (HB3.out.trans (hb4.mono HB3.out.size))
  have hV4a := hid_of (VRep.keep hb4 _ _ hV3.out)
  replace hV4 := hid_of hV4
  clear hb4 A3 HB3 hV3
  unfold V5.v objU
  dsimp only
  go_wp2_with fail
  have hb5 : Below W4.heap.size W4 (((W4.alloc (.cells #[.int .i64 6, .int .i64 0, .string ⟨#[]⟩, .slice (some ⟨bn1, 0, none⟩) 1 1, .slice (some ⟨bi1, 0, none⟩) 1 1, .int .i64 6, .int .i64 0, .string ⟨#[]⟩, .slice (some ⟨bn2, 0, none⟩) 1 1, .slice (some ⟨bi2, 0, none⟩) 1 1] 28)).alloc (.cells #[.int .i64 6, .int .i64 0, .string ⟨#[]⟩, .slice (some ⟨w.heap.size, 0, none⟩) 2 2, .slice (some ⟨W4.heap.size, 0, none⟩) 2 2] 28)).alloc (.cells #[.string nB, .string tB] 9)) := (((Below.refl _ W4).alloc (Nat.le_refl _) _).alloc (by simp) _).alloc (by simp; omega) _
  have X0 : (((W4.alloc (.cells #[.int .i64 6, .int .i64 0, .string ⟨#[]⟩, .slice (some ⟨bn1, 0, none⟩) 1 1, .slice (some ⟨bi1, 0, none⟩) 1 1, .int .i64 6, .int .i64 0, .string ⟨#[]⟩, .slice (some ⟨bn2, 0, none⟩) 1 1, .slice (some ⟨bi2, 0, none⟩) 1 1] 28)).alloc (.cells #[.int .i64 6, .int .i64 0, .string ⟨#[]⟩, .slice (some ⟨w.heap.size, 0, none⟩) 2 2, .slice (some ⟨W4.heap.size, 0, none⟩) 2 2] 28)).alloc (.cells #[.string nB, .string tB] 9)).heap[W4.heap.size]? = some (.cells #[.int .i64 6, .int .i64 0, .string ⟨#[]⟩, .slice (some ⟨bn1, 0, none⟩) 1 1, .slice (some ⟨bi1, 0, none⟩) 1 1, .int .i64 6, .int .i64 0, .string ⟨#[]⟩, .slice (some ⟨bn2, 0, none⟩) 1 1, .slice (some ⟨bi2, 0, none⟩) 1 1] 28) := al_lt (by simp; omega) (al_lt (by simp) (al_eq rfl))
  have X1 : (((W4.alloc (.cells #[.int .i64 6, .int .i64 0, .string ⟨#[]⟩, .slice (some ⟨bn1, 0, none⟩) 1 1, .slice (some ⟨bi1, 0, none⟩) 1 1, .int .i64 6, .int .i64 0, .string ⟨#[]⟩, .slice (some ⟨bn2, 0, none⟩) 1 1, .slice (some ⟨bi2, 0, none⟩) 1 1] 28)).alloc (.cells #[.int .i64 6, .int .i64 0, .string ⟨#[]⟩, .slice (some ⟨w.heap.size, 0, none⟩) 2 2, .slice (some ⟨W4.heap.size, 0, none⟩) 2 2] 28)).alloc (.cells #[.string nB, .string tB] 9)).heap[W4.heap.size + 1]? = some (.cells #[.int .i64 6, .int .i64 0, .string ⟨#[]⟩, .slice (some ⟨w.heap.size, 0, none⟩) 2 2, .slice (some ⟨W4.heap.size, 0, none⟩) 2 2] 28) := al_lt (by simp) (al_eq (by simp))
  have X2 : (((W4.alloc (.cells #[.int .i64 6, .int .i64 0, .string ⟨#[]⟩, .slice (some ⟨bn1, 0, none⟩) 1 1, .slice (some ⟨bi1, 0, none⟩) 1 1, .int .i64 6, .int .i64 0, .string ⟨#[]⟩, .slice (some ⟨bn2, 0, none⟩) 1 1, .slice (some ⟨bi2, 0, none⟩) 1 1] 28)).alloc (.cells #[.int .i64 6, .int .i64 0, .string ⟨#[]⟩, .slice (some ⟨w.heap.size, 0, none⟩) 2 2, .slice (some ⟨W4.heap.size, 0, none⟩) 2 2] 28)).alloc (.cells #[.string nB, .string tB] 9)).heap[W4.heap.size + 1 + 1]? = some (.cells #[.string nB, .string tB] 9) := al_eq (by simp)
  have hO := hid_of (obj2_rep (v1 := objU bn1 bi1) (v2 := objU bn2 bi2) (block_keep A4.out hb5) X0 (VRep.keep hb5 _ _ hV4a.out) (VRep.keep hb5 _ _ hV4.out))
  have HB5 := hid_of (HB4.out.trans (hb5.mono HB4.out.size))
  replace X1 := hid_of X1; replace X2 := hid_of X2
  clear hb5 X0 A4 HB4 hV4a hV4
  generalize hWn : W4.heap.size + 1 = wb at *
  refine (number_any 5 _).mono ?_
  rintro e W6 ⟨rfl, hb6⟩
  unfold nB tB at *
  generalize ((W4.alloc _).alloc _).alloc _ = W5 at *
  have HB6 := hid_of (HB5.out.trans (hb6.mono HB5.out.size))
  have Y1 := hid_of (block_keep X1.out hb6)
  have Y2 := hid_of (block_keep X2.out hb6)
  have hO6 := hid_of (VRep.keep hb6 _ _ hO.out)
  clear hb6 X1 X2 hO HB5
  unfold V5.v numU
  dsimp only
  go_wp2_with fail
  refine (word_any xB _).mono ?_
  rintro e W7 ⟨rfl, hb7⟩
  have HB7 := hid_of (HB6.out.trans (hb7.mono HB6.out.size))
  have Z1 := hid_of (block_keep Y1.out hb7)
  have Z2 := hid_of (block_keep Y2.out hb7)
  have hO7 := hid_of (VRep.keep hb7 _ _ hO6.out)
  clear hb7 Y1 Y2 hO6 HB6
  unfold V5.v wordU
  dsimp only
  have z0 := cell_of Z1.out 0; have z1 := cell_of Z1.out 1; have z2 := cell_of Z1.out 2; have z3 := cell_of Z1.out 3; have z4 := cell_of Z1.out 4
  simp only [List.getElem?_toArray, List.getElem?_cons_zero, List.getElem?_cons_succ] at z0 z1 z2 z3 z4
  have hbx : ∀ o1 o2 o3, Below W7.heap.size W7 (((W7.alloc o1).alloc o2).alloc o3) := fun o1 o2 o3 => (((Below.refl _ W7).alloc (Nat.le_refl _) _).alloc (by simp) _).alloc (by simp; omega) _
  have y0 := fun o1 o2 o3 => stay (hbx o1 o2 o3) z0
  have y1 := fun o1 o2 o3 => stay (hbx o1 o2 o3) z1
  have y2 := fun o1 o2 o3 => stay (hbx o1 o2 o3) z2
  have y3 := fun o1 o2 o3 => stay (hbx o1 o2 o3) z3
  have y4 := fun o1 o2 o3 => stay (hbx o1 o2 o3) z4
  clear z0 z1 z2 z3 z4
  go_wp2_with fail
  have hb8 := hbx (.cells #[.int .i64 4, .int .i64 0, .string xB, .slice none 0 0, .slice none 0 0] 28) (.cells #[.int .i64 3, .int .i64 5, .string ⟨#[]⟩, .slice none 0 0, .slice none 0 0, .int .i64 5, .int .i64 0, .string ⟨#[]⟩, .slice none 0 0, .slice (some ⟨W7.heap.size, 0, none⟩) 1 1] 28) (.cells #[.int .i64 6, .int .i64 0, .string ⟨#[]⟩, .slice (some ⟨wb + 1, 0, none⟩) 2 2, .slice (some ⟨W7.heap.size + 1, 0, none⟩) 2 2] 28)
  have X0 : (((W7.alloc (.cells #[.int .i64 4, .int .i64 0, .string xB, .slice none 0 0, .slice none 0 0] 28)).alloc (.cells #[.int .i64 3, .int .i64 5, .string ⟨#[]⟩, .slice none 0 0, .slice none 0 0, .int .i64 5, .int .i64 0, .string ⟨#[]⟩, .slice none 0 0, .slice (some ⟨W7.heap.size, 0, none⟩) 1 1] 28)).alloc (.cells #[.int .i64 6, .int .i64 0, .string ⟨#[]⟩, .slice (some ⟨wb + 1, 0, none⟩) 2 2, .slice (some ⟨W7.heap.size + 1, 0, none⟩) 2 2] 28)).heap[W7.heap.size]? = some (.cells #[.int .i64 4, .int .i64 0, .string xB, .slice none 0 0, .slice none 0 0] 28) := al_lt (by simp; omega) (al_lt (by simp) (al_eq rfl))
  have X1 : (((W7.alloc (.cells #[.int .i64 4, .int .i64 0, .string xB, .slice none 0 0, .slice none 0 0] 28)).alloc (.cells #[.int .i64 3, .int .i64 5, .string ⟨#[]⟩, .slice none 0 0, .slice none 0 0, .int .i64 5, .int .i64 0, .string ⟨#[]⟩, .slice none 0 0, .slice (some ⟨W7.heap.size, 0, none⟩) 1 1] 28)).alloc (.cells #[.int .i64 6, .int .i64 0, .string ⟨#[]⟩, .slice (some ⟨wb + 1, 0, none⟩) 2 2, .slice (some ⟨W7.heap.size + 1, 0, none⟩) 2 2] 28)).heap[W7.heap.size + 1]? = some (.cells #[.int .i64 3, .int .i64 5, .string ⟨#[]⟩, .slice none 0 0, .slice none 0 0, .int .i64 5, .int .i64 0, .string ⟨#[]⟩, .slice none 0 0, .slice (some ⟨W7.heap.size, 0, none⟩) 1 1] 28) := al_lt (by simp) (al_eq (by simp))
  have X2 : (((W7.alloc (.cells #[.int .i64 4, .int .i64 0, .string xB, .slice none 0 0, .slice none 0 0] 28)).alloc (.cells #[.int .i64 3, .int .i64 5, .string ⟨#[]⟩, .slice none 0 0, .slice none 0 0, .int .i64 5, .int .i64 0, .string ⟨#[]⟩, .slice none 0 0, .slice (some ⟨W7.heap.size, 0, none⟩) 1 1] 28)).alloc (.cells #[.int .i64 6, .int .i64 0, .string ⟨#[]⟩, .slice (some ⟨wb + 1, 0, none⟩) 2 2, .slice (some ⟨W7.heap.size + 1, 0, none⟩) 2 2] 28)).heap[W7.heap.size + 1 + 1]? = some (.cells #[.int .i64 6, .int .i64 0, .string ⟨#[]⟩, .slice (some ⟨wb + 1, 0, none⟩) 2 2, .slice (some ⟨W7.heap.size + 1, 0, none⟩) 2 2] 28) := al_eq (by simp)
  have hO8 := VRep.keep hb8 _ _ hO7.out
  have hL8 := vrep_list (c := 1) (row_one (v := wordU xB) (vrep_word _ xB) X0) ⟨Nat.le_refl _, by decide⟩
  have hD8 := hid_of (obj2_rep (v1 := numU 5) (v2 := listU (some ⟨W7.heap.size, 0, none⟩) 1 1) (block_keep Z2.out hb8) X1 (vrep_num _ 5) hL8)
  have HB8 := hid_of (HB7.out.trans (hb8.mono HB7.out.size))
  replace X2 := hid_of X2
  have hE8 := hid_of (hE.out.keep HB8.out)
  have hpa := hid_of (parse_live ⟨6, 0, ⟨#[]⟩, some ⟨w.heap.size, 0, none⟩, 2, 2, some ⟨W4.heap.size, 0, none⟩, 2, 2⟩ _ hE8.out hO8)
  clear hb8 X0 X1 hO8 hL8 hO7 Z1 Z2 HB7 hbx y0 y1 y2 y3 y4 hWn
  generalize hWd : W7.heap.size + 1 + 1 = wd at *
  generalize W7.heap.size + 1 = wi at *
  generalize (((W7.alloc (.cells #[.int .i64 4, .int .i64 0, .string xB, .slice none 0 0, .slice none 0 0] 28)).alloc (.cells #[.int .i64 3, .int .i64 5, .string ⟨#[]⟩, .slice none 0 0, .slice none 0 0, .int .i64 5, .int .i64 0, .string ⟨#[]⟩, .slice none 0 0, .slice (some ⟨W7.heap.size, 0, none⟩) 1 1] 28)).alloc (.cells #[.int .i64 6, .int .i64 0, .string ⟨#[]⟩, .slice (some ⟨wb + 1, 0, none⟩) 2 2, .slice (some ⟨wi, 0, none⟩) 2 2] 28)) = W8 at *
  refine hpa.out.mono ?_
  rintro e W9 ⟨hb9, ub, lo, g1, c1, m1, g2, c2, m2, caps1, caps2, tv, mv, rfl, hU⟩
  have HB9 := hid_of (HB8.out.trans (hb9.mono HB8.out.size))
  have Y2 := hid_of (block_keep X2.out hb9)
  have hD9 := hid_of (VRep.keep hb9 _ _ hD8.out)
  have hE9 := hid_of (hE8.out.keep hb9)
  replace hU := hid_of hU
  clear hb9 X2 hD8 hE8 hpa HB8 hE
  have z0 := cell_of Y2.out 0; have z1 := cell_of Y2.out 1; have z2 := cell_of Y2.out 2; have z3 := cell_of Y2.out 3; have z4 := cell_of Y2.out 4
  simp only [List.getElem?_toArray, List.getElem?_cons_zero, List.getElem?_cons_succ] at z0 z1 z2 z3 z4
  go_wp2_with fail
  refine (num_any 0 _).mono ?_
  rintro e W10 ⟨rfl, rfl⟩
  have hap := hid_of (apply_live_ok ub lo g1 c1 m1 g2 c2 m2 caps1 caps2 tv mv _ W10 hE9.out hU.out hD9.out)
  go_wp2_with fail
  refine hap.out.mono ?_
  rintro e W11 ⟨hb11, ⟨ka, xa, sa, ana, lna, cna, aia, lia, cia⟩, rfl, hy⟩
  obtain ⟨-, -, hli, ga, oa, gi, oi, x1, x2, -, hai, -, -, hx1, hx2, hi1, hi2⟩ := obj_two hy
  simp only at hli hai
  subst hli hai
  have hbA : Below W11.heap.size W11 (W11.alloc (.cells #[.int .i64 ka, .int .i64 xa, .string sa, .slice ana lna cna, .slice (some ⟨gi, oi, none⟩) 2 cia] 28)) := (Below.refl _ W11).alloc (Nat.le_refl _) _
  have HB11 := hid_of (HB9.out.trans ((hb11.trans (hbA.mono hb11.size)).mono HB9.out.size))
  have hE11 := hid_of (hE9.out.keep (hb11.trans (hbA.mono hb11.size)))
  have hU11 : Hid (UpAt PInc PPush (W11.alloc (.cells #[.int .i64 ka, .int .i64 xa, .string sa, .slice ana lna cna, .slice (some ⟨gi, oi, none⟩) 2 cia] 28)) ub lo g1 c1 m1 g2 c2 m2 caps1 caps2 tv mv nB tB) := hid_of (hU.out.keep (hb11.trans (hbA.mono hb11.size)) PInc.keep PPush.keep)
  have P4 := hid_of (cell_of (heap_alloc_new W11 (.cells #[.int .i64 ka, .int .i64 xa, .string sa, .slice ana lna cna, .slice (some ⟨gi, oi, none⟩) 2 cia] 28)) 4)
  have hq1 : x1.x = 7 := (num_five hx1).2
  have hq2 : x2.li = 2 := list_two hx2
  have I1 := hid_of (stay hbA (hi1 1 _ rfl))
  have I2 := hid_of (stay hbA (hi2 4 _ rfl))
  rw [hq1] at I1
  rw [hq2] at I2
  have hs11 := hb11.size
  clear hb11 hy hx1 hx2 hi1 hi2 hq1 hbA hap hD9 hE9 hU Y2 HB9 z0 z1 z2 z3 z4
  unfold V5.v
  dsimp only
  go_wp2_with fail
  generalize hw11 : W11.heap.size = ws at *
  generalize W11.alloc (.cells #[.int .i64 ka, .int .i64 xa, .string sa, .slice ana lna cna, .slice (some ⟨gi, oi, none⟩) 2 cia] 28) = W12 at *
  refine (word_any xB _).mono ?_
  rintro e W13 ⟨rfl, hb13⟩
  have HB13 := hid_of (HB11.out.trans (hb13.mono HB11.out.size))
  have hE13 := hid_of (hE11.out.keep hb13)
  have hU13 := hid_of (hU11.out.keep hb13 PInc.keep PPush.keep)
  have P13 := hid_of (stay hb13 P4.out)
  have J1 := hid_of (stay hb13 I1.out)
  have J2 := hid_of (stay hb13 I2.out)
  clear hb13 HB11 hE11 hU11 P4 I1 I2
  unfold V5.v wordU
  dsimp only
  go_wp2_with fail
  refine (object_v nB (wordT xB) (wordU xB) W13 (vrep_word _ _)).mono ?_
  rintro e W14 ⟨hb14, bn, bi, rfl, hV14⟩
  have HB14 := hid_of (HB13.out.trans (hb14.mono HB13.out.size))
  have hE14 := hid_of (hE13.out.keep hb14)
  have hU14 := hid_of (hU13.out.keep hb14 PInc.keep PPush.keep)
  have P14 := hid_of (stay hb14 P13.out)
  have K1 := hid_of (stay hb14 J1.out)
  have K2 := hid_of (stay hb14 J2.out)
  have hap := hid_of (apply_live_err ub lo g1 c1 m1 g2 c2 m2 caps1 caps2 tv mv (objU bn bi) W14 hE14.out hU14.out hV14)
  clear hb14 hV14 HB13 hE13 hU13 P13 J1 J2 hE14 hU14
  unfold V5.v objU at *
  dsimp only at *
  go_wp2_with fail
  refine hap.out.mono ?_
  rintro e W15 ⟨rfl, hb15⟩
  have hbB : Below W15.heap.size W15 (W15.alloc (.cells #[.int .i64 0, .int .i64 0, .string ⟨#[]⟩, .slice none 0 0, .slice none 0 0] 28)) := (Below.refl _ W15).alloc (Nat.le_refl _) _
  have hbc := hb15.trans (hbB.mono hb15.size)
  have HB15 := hid_of (HB14.out.trans (hbc.mono HB14.out.size))
  have P15 := stay hbc P14.out
  have L1 := stay hbc K1.out
  have L2 := stay hbc K2.out
  simp only [Nat.add_assoc, Nat.reduceAdd] at L2
  clear hb15 hbB hbc HB14 P14 K1 K2 hap
  go_wp2_with fail
  refine (num_any 0 _).mono ?_
  rintro e W16 ⟨rfl, rfl⟩
  go_wp2_with fail
  refine (num_any 56 _).mono ?_
  rintro e W17 ⟨rfl, rfl⟩
  go_wp2_with fail
  go_ret
  exact ⟨rfl, HB15.out⟩
end Go.Proofs.YthgnkhpomhcdkaaGreatDoor
/-! update: UpdateNames. -/
namespace Go.Proofs.YthgnkhpomhcdkaaGreatDoor
open Go Go.RowKit Dp

set_option maxRecDepth 100000 in
set_option maxHeartbeats 4000000 in
theorem names_true (w : World) (hE : EnvU w) : Calls Tryz.prog 3 #[] w fun e w' => e = .returned (.bool true) ∧ Below w.heap.size w w' := by
  have hn := fun z W => hid_of (num_any z W)
  have hlv := hid_of (live_true w hE)
  clear hE
  go_enter Tryz.func3, Tryz.ntmps3
  go_wp2_with fail
  refine (hn _ _).out.mono ?_
  rintro e Z ⟨rfl, hZ⟩
  obtain rfl : w = Z := hZ.symm
  clear hZ
  go_wp2_with fail
  refine (hn _ _).out.mono ?_
  rintro e Z ⟨rfl, hZ⟩
  obtain rfl : w = Z := hZ.symm
  clear hZ
  go_wp2_with fail
  refine (hn _ _).out.mono ?_
  rintro e Z ⟨rfl, hZ⟩
  obtain rfl : w = Z := hZ.symm
  clear hZ
  go_wp2_with fail
  refine (hn _ _).out.mono ?_
  rintro e Z ⟨rfl, hZ⟩
  obtain rfl : w = Z := hZ.symm
  clear hZ
  go_wp2_with fail
  refine (hn _ _).out.mono ?_
  rintro e Z ⟨rfl, hZ⟩
  obtain rfl : w = Z := hZ.symm
  clear hZ
  go_wp2_with fail
  refine (hn _ _).out.mono ?_
  rintro e Z ⟨rfl, hZ⟩
  obtain rfl : w = Z := hZ.symm
  clear hZ
  go_wp2_with fail
  refine (hn _ _).out.mono ?_
  rintro e Z ⟨rfl, hZ⟩
  obtain rfl : w = Z := hZ.symm
  clear hZ
  go_wp2_with fail
  refine (hn _ _).out.mono ?_
  rintro e Z ⟨rfl, hZ⟩
  obtain rfl : w = Z := hZ.symm
  clear hZ
  go_wp2_with fail
  refine (hn _ _).out.mono ?_
  rintro e Z ⟨rfl, hZ⟩
  obtain rfl : w = Z := hZ.symm
  clear hZ
  go_wp2_with fail
  refine (hn _ _).out.mono ?_
  rintro e Z ⟨rfl, hZ⟩
  obtain rfl : w = Z := hZ.symm
  clear hZ
  go_wp2_with fail
  refine hlv.out.mono ?_
  rintro e W1 ⟨rfl, hB1⟩
  replace hB1 := hid_of hB1
  clear hlv
  go_wp2_with fail
  go_ret
  exact ⟨rfl, hB1.out⟩
end Go.Proofs.YthgnkhpomhcdkaaGreatDoor
