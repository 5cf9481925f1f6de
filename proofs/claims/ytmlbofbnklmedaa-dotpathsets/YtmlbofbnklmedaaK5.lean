import Derived.Test.YtmlbofbnklmedaaO3
import Derived.Test.YtmlbofbnklmedaaK4
import Derived.Test.YtmlbofbnklmedaaS16
/-! What a change of one place leaves as it was: the walk. -/
namespace Go.Proofs.Ytmlbofbnklmedaa
open Go Go.RowKit

theorem get_known : (l : List ByteArray) → (t x : Tr) → KnownT t → getT t l = some x → KnownT x
  | [], t, x, hk, h => by simp [getT] at h; subst h; exact hk
  | s :: r, t, x, hk, h => by
    by_cases hh : hasT t s
    · rw [get_has hh] at h
      exact get_known r _ x (item_known hk) h
    · rw [get_not hh] at h; cases h
set_option maxHeartbeats 2000000 in
set_option maxRecDepth 100000 in
theorem same_get (t u : Tr) (k1 x1 : Int) (s1 : ByteArray) (an1 : Option Addr) (ln1 cn1 : Nat) (ai1 : Option Addr) (li1 ci1 : Nat) (k2 x2 : Int) (s2 : ByteArray) (an2 : Option Addr) (ln2 cn2 : Nat) (ai2 : Option Addr) (li2 ci2 : Nat) (a : Option Addr) (c : Nat) (l : List ByteArray) (w : World) (hV : VRep w t (five k1 x1 s1 (.slice an1 ln1 cn1) (.slice ai1 li1 ci1))) (hU : VRep w u (five k2 x2 s2 (.slice an2 ln2 cn2) (.slice ai2 li2 ci2))) (hP : Reads w (.slice a l.length c) l) (hl : l.length ≤ 1000) (hS : Sized l) (h : getT t l = getT u l) :
    Calls Try.prog 15 #[.agg #[.int .i64 k1, .int .i64 x1, .string s1, .slice an1 ln1 cn1, .slice ai1 li1 ci1], .agg #[.int .i64 k2, .int .i64 x2, .string s2, .slice an2 ln2 cn2, .slice ai2 li2 ci2], .slice a l.length c] w fun e w' => e = .returned (.bool true) ∧ Below w.heap.size w w' := by
  have hB2 := fun o p => below_two w o p
  have hg1 := fun o p => hid_f (getR_any t k1 x1 s1 an1 ln1 cn1 ai1 li1 ci1 _ l ((w.alloc o).alloc p) (VRep.keep (hB2 o p) _ _ hV) (hP.keep (hB2 o p)) hl hS)
  have hg2 := fun W (hW : Below w.heap.size w W) => hid_f (getR_any u k2 x2 s2 an2 ln2 cn2 ai2 li2 ci2 _ l W (VRep.keep hW _ _ hU) (hP.keep hW) hl hS)
  rw [h] at hg1
  have hn1 := fun o p => new1 w o p
  have hn2 := fun o p => new2 w o p
  clear hV hU hP h
  go_enter Try.func15, Try.ntmps15
  go_wp2_with fail
  refine (hg1 _ _).out.mono ?_
  rintro e Y ⟨kx, xx, sx, anx, lnx, cnx, aix, lix, cix, rfl, hvx, hbw⟩
  have HB : Below w.heap.size w (Y.alloc (.cells #[.int .i64 kx, .int .i64 xx, .string sx, .slice anx lnx cnx, .slice aix lix cix] 25)) := ((hB2 _ _).trans (hbw.mono (by simp only [World.size_alloc]; omega))).alloc (by have := hbw.size; simp only [World.size_alloc] at this; omega) _
  have h2 : (Y.alloc (.cells #[.int .i64 kx, .int .i64 xx, .string sx, .slice anx lnx cnx, .slice aix lix cix] 25)).heap[w.heap.size + 1]? = some (.cells #[.int .i64 k2, .int .i64 x2, .string s2, .slice an2 ln2 cn2, .slice ai2 li2 ci2] 25 (0, 0)) := (Below.heap_alloc _ _ _ (by have := hbw.size; simp only [World.size_alloc] at this; omega)).trans ((hbw.block _ (by simp only [World.size_alloc]; omega)).trans (hn2 _ _))
  have hx := heap_alloc_new Y (.cells #[.int .i64 kx, .int .i64 xx, .string sx, .slice anx lnx cnx, .slice aix lix cix] 25)
  replace hvx := hid_f (VRep.keep ((Below.refl _ Y).alloc (Nat.le_refl _) (.cells #[.int .i64 kx, .int .i64 xx, .string sx, .slice anx lnx cnx, .slice aix lix cix] 25)) _ _ hvx)
  obtain ⟨b, hb⟩ : ∃ b, Hid ((getT u l).isSome = b) := ⟨_, hid_f rfl⟩
  rw [hb.out]
  clear hbw hg1 hn1 hn2 hB2
  go_upto_region 2 with fail
  generalize Y.alloc (.cells #[.int .i64 kx, .int .i64 xx, .string sx, .slice anx lnx cnx, .slice aix lix cix] 25) = W1 at HB h2 hx hvx ⊢
  obtain ⟨gx, hgx⟩ : ∃ g, Y.heap.size = g := ⟨_, rfl⟩
  rw [hgx] at hx
  rw [hgx]
  clear hgx
  obtain ⟨e0, e1, e2, e3, e4, -⟩ := row_cells h2
  go_wp2_with fail
  clear e0 e1 e2 e3 e4 h2
  refine (hg2 _ HB).out.mono ?_
  rintro e Z ⟨ky, xy, sy, any, lny, cny, aiy, liy, ciy, rfl, hvy, hbw⟩
  rw [hb.out]
  replace HB := (HB.trans (hbw.mono HB.size)).alloc (Nat.le_trans HB.size hbw.size) (.cells #[.int .i64 ky, .int .i64 xy, .string sy, .slice any lny cny, .slice aiy liy ciy] 25)
  replace hx := block_keep hx (hbw.alloc hbw.size (.cells #[.int .i64 ky, .int .i64 xy, .string sy, .slice any lny cny, .slice aiy liy ciy] 25))
  replace hvx := hid_f (VRep.keep (hbw.alloc hbw.size (.cells #[.int .i64 ky, .int .i64 xy, .string sy, .slice any lny cny, .slice aiy liy ciy] 25)) _ _ hvx.out)
  have hy := heap_alloc_new Z (.cells #[.int .i64 ky, .int .i64 xy, .string sy, .slice any lny cny, .slice aiy liy ciy] 25)
  replace hvy := hid_f (VRep.keep ((Below.refl _ Z).alloc (Nat.le_refl _) (.cells #[.int .i64 ky, .int .i64 xy, .string sy, .slice any lny cny, .slice aiy liy ciy] 25)) _ _ hvy)
  clear hbw hg2
  go_upto_region 3 with fail
  generalize Z.alloc (.cells #[.int .i64 ky, .int .i64 xy, .string sy, .slice any lny cny, .slice aiy liy ciy] 25) = W2 at HB hx hvx hy hvy ⊢
  obtain ⟨gy, hgy⟩ : ∃ g, Z.heap.size = g := ⟨_, rfl⟩
  rw [hgy] at hy
  rw [hgy]
  clear hgy
  have heq := hid_f (equal_law _ kx xx sx anx lnx cnx aix lix cix ky xy sy any lny cny aiy liy ciy W2 hvx.out hvy.out)
  clear hvx hvy
  obtain ⟨e0, e1, e2, e3, e4, -⟩ := row_cells hx
  obtain ⟨f0, f1, f2, f3, f4, -⟩ := row_cells hy
  have hbb : (b == b) = true := by simp
  go_wp2_with fail
  go_fit heq.out
  rintro e W3 ⟨rfl, hb3⟩
  clear e0 e1 e2 e3 e4 f0 f1 f2 f3 f4 heq
  go_wp2_with fail
  go_ret
  exact ⟨rfl, HB.trans (hb3.mono HB.size)⟩
theorem uns_parts {V : Tr} {P : List ByteArray} (h : unsB V P = true) : ∃ x0, Hid (getT V P = some x0) ∧ Hid (P ≠ []) := by
  unfold unsB at h
  cases hg : getT V P with
  | none => rw [hg] at h; cases h
  | some u => exact ⟨u, hid_f rfl, hid_f (fun e => by rw [e] at h; simp at h)⟩
theorem kind_nil {W : World} {k x : Int} {s : ByteArray} {nm it : Value} (h : VRep W nilT' (five k x s nm it)) : k = 0 := by
  unfold nilT' VRep at h
  obtain ⟨_, _, _, e, _⟩ := h
  unfold five at e
  simp at e
  exact e.1
theorem gone_kind {W : World} {o : Option Tr} {k x : Int} {s : ByteArray} {nm it : Value} (hg : o = none ∨ o = some nilT') (h : VRep W (o.getD zeroT) (five k x s nm it)) (hs : o.isSome = true) : k = 0 := by
  rcases hg with rfl | rfl
  · cases hs
  · exact kind_nil h
/-- What was handed in. -/
structure Chg (w : World) (b : Array Value) (wx : World) : Prop where
  below : Below w.heap.size w wx
  box : wx.heap[w.heap.size]? = some (.cells b 41 (0, 0))
theorem Chg.keep {w wx wy : World} {b : Array Value} (h : Chg w b wx) (hb : Below wx.heap.size wx wy) : Chg w b wy :=
  ⟨h.below.trans (hb.mono h.below.size), (hb.block _ (Array.getElem?_eq_some_iff.1 h.box).1).trans h.box⟩
theorem Chg.cell {w wx : World} {b : Array Value} (h : Chg w b wx) {j : Nat} {u : Value} (hj : b[j]? = some u) : wx.cell? ⟨w.heap.size, j, none⟩ = some u := by
  have := h.box
  simp [World.cell?, this, hj]
set_option maxHeartbeats 8000000 in
set_option maxRecDepth 100000 in
theorem keeps_true (k1 x1 : Int) (s1 : ByteArray) (an1 : Option Addr) (ln1 cn1 : Nat) (ai1 : Option Addr) (li1 ci1 : Nat) (k2 x2 : Int) (s2 : ByteArray) (an2 : Option Addr) (ln2 cn2 : Nat) (ai2 : Option Addr) (li2 ci2 : Nat) (pp : Option Addr) (cp : Nat) (po : Option Addr) (co : Nat) (V X : Tr) (P O : List ByteArray) (w : World)
    (hV : Hid (VRep w V (five k1 x1 s1 (.slice an1 ln1 cn1) (.slice ai1 li1 ci1)))) (hX : Hid (VRep w X (five k2 x2 s2 (.slice an2 ln2 cn2) (.slice ai2 li2 ci2)))) (hsV : Hid (SmallT V)) (hP : Hid (Reads w (.slice pp P.length cp) P)) (hO : Hid (Reads w (.slice po O.length co) O)) (zP : Hid (Sized P)) (zO : Hid (Sized O)) :
    Calls Try.prog 4 #[.agg #[.int .i64 k1, .int .i64 x1, .string s1, .slice an1 ln1 cn1, .slice ai1 li1 ci1, .slice pp P.length cp, .int .i64 k2, .int .i64 x2, .string s2, .slice an2 ln2 cn2, .slice ai2 li2 ci2], .slice po O.length co] w fun e w' => e = .returned (.bool true) ∧ Below w.heap.size w w' := by
  have lP := hP.out.len
  have lO := hO.out.len
  have hlg : ∀ o p, Hid (Calls Try.prog 6 #[.slice (some ⟨w.heap.size + 1, 0, none⟩) 2 2] ((w.alloc o).alloc (.cells #[.int .i64 k1, .int .i64 x1, .string s1, .slice an1 ln1 cn1, .slice ai1 li1 ci1, .int .i64 k2, .int .i64 x2, .string s2, .slice an2 ln2 cn2, .slice ai2 li2 ci2] p)) fun e w' => (∃ z, e = .returned (.bool z)) ∧ Below ((w.alloc o).alloc (.cells #[.int .i64 k1, .int .i64 x1, .string s1, .slice an1 ln1 cn1, .slice ai1 li1 ci1, .int .i64 k2, .int .i64 x2, .string s2, .slice an2 ln2 cn2, .slice ai2 li2 ci2] p)).heap.size ((w.alloc o).alloc (.cells #[.int .i64 k1, .int .i64 x1, .string s1, .slice an1 ln1 cn1, .slice ai1 li1 ci1, .int .i64 k2, .int .i64 x2, .string s2, .slice an2 ln2 cn2, .slice ai2 li2 ci2] p)) w') := fun o p => hid_f (large_any [V, X] (w.heap.size + 1) 0 2 _ (by simp) (fun _ => by simp) (hid_f (by
    have hcell : ∀ j, ((w.alloc o).alloc (.cells #[.int .i64 k1, .int .i64 x1, .string s1, .slice an1 ln1 cn1, .slice ai1 li1 ci1, .int .i64 k2, .int .i64 x2, .string s2, .slice an2 ln2 cn2, .slice ai2 li2 ci2] p)).cell? ⟨w.heap.size + 1, j, none⟩ = (#[.int .i64 k1, .int .i64 x1, .string s1, .slice an1 ln1 cn1, .slice ai1 li1 ci1, .int .i64 k2, .int .i64 x2, .string s2, .slice an2 ln2 cn2, .slice ai2 li2 ci2] : Array Value)[j]? := fun j => by
      unfold World.cell?
      rw [new2 w o (.cells #[.int .i64 k1, .int .i64 x1, .string s1, .slice an1 ln1 cn1, .slice ai1 li1 ci1, .int .i64 k2, .int .i64 x2, .string s2, .slice an2 ln2 cn2, .slice ai2 li2 ci2] p)]
      rfl
    unfold VRepL VRepL VRepL
    refine ⟨(five k1 x1 s1 (.slice an1 ln1 cn1) (.slice ai1 li1 ci1)), fun j u hj => ?_, VRep.keep (below_two w _ _) _ _ hV.out, (five k2 x2 s2 (.slice an2 ln2 cn2) (.slice ai2 li2 ci2)), fun j u hj => ?_, VRep.keep (below_two w _ _) _ _ hX.out, trivial⟩
    all_goals
      rw [hcell]
      have hj5 := (List.getElem?_eq_some_iff.1 hj).1
      simp only [five, List.length_cons, List.length_nil] at hj5
      match j, hj5 with
      | 0, _ => exact hj
      | 1, _ => exact hj
      | 2, _ => exact hj
      | 3, _ => exact hj
      | 4, _ => exact hj)))
  have hcl := fun W (hW : Below w.heap.size w W) => hid_f (rclash_any pp cp po co P O W (hid_f (hP.out.keep hW)) (hid_f (hO.out.keep hW)))
  have hk1 := fun W (hW : Below w.heap.size w W) => hid_f (known_any V _ W (VRep.keep hW _ _ hV.out))
  go_enter Try.func4, Try.ntmps4
  go_upto_region 1 with fail
  go_cut [41] (fun v wx => Looked (P.length ≤ 1000 ∧ O.length ≤ 1000 ∧ KnownT V) v ∧ Chg w #[.int .i64 k1, .int .i64 x1, .string s1, .slice an1 ln1 cn1, .slice ai1 li1 ci1, .slice pp P.length cp, .int .i64 k2, .int .i64 x2, .string s2, .slice an2 ln2 cn2, .slice ai2 li2 ci2] wx)
  case first =>
    go_wp2_with fail
    go_fit (hlg _ _).out
    rintro e X0 ⟨⟨z, rfl⟩, hb⟩
    have hT0 : Chg w #[.int .i64 k1, .int .i64 x1, .string s1, .slice an1 ln1 cn1, .slice ai1 li1 ci1, .slice pp P.length cp, .int .i64 k2, .int .i64 x2, .string s2, .slice an2 ln2 cn2, .slice ai2 li2 ci2] X0 := ⟨(below_two w _ _).trans (hb.mono (by simp only [World.size_alloc]; omega)), (hb.block _ (by simp only [World.size_alloc]; omega)).trans (new1 w _ _)⟩
    clear hb hlg
    cases z
    · have c0 := Chg.cell hT0 (j := 0) rfl
      have c1 := Chg.cell hT0 (j := 1) rfl
      have c2 := Chg.cell hT0 (j := 2) rfl
      have c3 := Chg.cell hT0 (j := 3) rfl
      have c4 := Chg.cell hT0 (j := 4) rfl
      have c5 := Chg.cell hT0 (j := 5) rfl
      have c6 := Chg.cell hT0 (j := 6) rfl
      have c7 := Chg.cell hT0 (j := 7) rfl
      have c8 := Chg.cell hT0 (j := 8) rfl
      have c9 := Chg.cell hT0 (j := 9) rfl
      have c10 := Chg.cell hT0 (j := 10) rfl
      by_cases h0 : 1000 < P.length
      · have d0 : decide ((1000 : Int) < (P.length : Int)) = true := by simp; omega
        go_wp2_with fail
        go_meet
        exact ⟨looked_yes, hT0⟩
      · have d0 : decide ((1000 : Int) < (P.length : Int)) = false := by simp; omega
        by_cases h1 : 1000 < O.length
        · have d1 : decide ((1000 : Int) < (O.length : Int)) = true := by simp; omega
          go_wp2_with fail
          go_meet
          exact ⟨looked_yes, hT0⟩
        · have d1 : decide ((1000 : Int) < (O.length : Int)) = false := by simp; omega
          go_wp2_with fail
          go_fit (hk1 _ hT0.below).out
          rintro e X4 ⟨⟨z4, rfl, q4⟩, hb⟩
          have hT4 := hT0.keep hb
          clear hb c0 c1 c2 c3 c4 c5 c6 c7 c8 c9 c10
          cases z4
          · clear q4
            go_wp2_with fail
            go_meet
            exact ⟨looked_yes, hT4⟩
          · replace q4 := hid_f (q4 rfl)
            go_wp2_with fail
            go_meet
            exact ⟨⟨false, rfl, fun _ => ⟨by omega, by omega, q4.out⟩⟩, hT4⟩
    · go_wp2_with fail
      go_meet
      exact ⟨looked_yes, hT0⟩
  case rest =>
    clear hlg
    obtain ⟨⟨z, rfl, hz⟩, hT0⟩ := hcut
    cases z
    · obtain ⟨a1, a2, kV⟩ := hz rfl
      replace kV := hid_f kV
      have wV := hid_f (small_wide V hsV.out)
      clear hz hk1
      have c0 := Chg.cell hT0 (j := 0) rfl
      have c1 := Chg.cell hT0 (j := 1) rfl
      have c2 := Chg.cell hT0 (j := 2) rfl
      have c3 := Chg.cell hT0 (j := 3) rfl
      have c4 := Chg.cell hT0 (j := 4) rfl
      have c5 := Chg.cell hT0 (j := 5) rfl
      have c6 := Chg.cell hT0 (j := 6) rfl
      have c7 := Chg.cell hT0 (j := 7) rfl
      have c8 := Chg.cell hT0 (j := 8) rfl
      have c9 := Chg.cell hT0 (j := 9) rfl
      have c10 := Chg.cell hT0 (j := 10) rfl
      go_wp2_with fail
      clear c0 c1 c2 c3 c4 c5 c6 c7 c8 c9 c10
      go_fit (setR_any V X k1 x1 s1 an1 ln1 cn1 ai1 li1 ci1 k2 x2 s2 an2 ln2 cn2 ai2 li2 ci2 _ P _ (VRep.keep hT0.below _ _ hV.out) (VRep.keep hT0.below _ _ hX.out) (hP.out.keep hT0.below) a1 zP.out (wide_more V wV.out))
      rintro e Ya ⟨ka, xa, sa, ana, lna, cna, aia, lia, cia, rfl, hva, hbw⟩
      obtain ⟨da, hda⟩ : ∃ d, Hid ((downT V P).1 = d) := ⟨_, hid_f rfl⟩
      rw [hda.out]
      have hT1 := hT0.keep (hbw.alloc hbw.size (.cells #[.int .i64 ka, .int .i64 xa, .string sa, .slice ana lna cna, .slice aia lia cia] 25))
      have ha := heap_alloc_new Ya (.cells #[.int .i64 ka, .int .i64 xa, .string sa, .slice ana lna cna, .slice aia lia cia] 25)
      replace hva := hid_f (VRep.keep ((Below.refl _ Ya).alloc (Nat.le_refl _) (.cells #[.int .i64 ka, .int .i64 xa, .string sa, .slice ana lna cna, .slice aia lia cia] 25)) _ _ hva)
      clear hbw
      go_upto_region 4 with fail
      generalize Ya.alloc (.cells #[.int .i64 ka, .int .i64 xa, .string sa, .slice ana lna cna, .slice aia lia cia] 25) = Wa at hT1 ha hva  ⊢
      obtain ⟨ga, hga⟩ : ∃ g, Ya.heap.size = g := ⟨_, rfl⟩
      rw [hga] at ha
      rw [hga]
      clear hga
      clear hT0
      go_cut [55] (fun v wx => v = .bool (da == 0) ∧ wx = Wa)
      case first =>
        go_wp2_with (go_at_call 11; refine (num_any _ _).mono ?_; rintro e w9 ⟨rfl, rfl⟩)
        go_meet
        exact ⟨rfl, rfl⟩
      case rest =>
        obtain ⟨rfl, rfl⟩ := hcut
        rename_i hKK
        apply hKK
        clear hKK
        go_cut [4] (fun v wx => v = .bool false ∧ Chg w #[.int .i64 k1, .int .i64 x1, .string s1, .slice an1 ln1 cn1, .slice ai1 li1 ci1, .slice pp P.length cp, .int .i64 k2, .int .i64 x2, .string s2, .slice an2 ln2 cn2, .slice ai2 li2 ci2] wx)
        case first =>
          by_cases m0 : da = 0
          · subst m0
            have hset := hid_f (setR_some (X := X) hda.out)
            have hgs := hid_f (get_same P V _ kV.out hset.out)
            have hga := hid_f (getR_any (setR V P X) ka xa sa ana lna cna aia lia cia _ P _ hva.out (hP.out.keep hT1.below) a1 zP.out)
            rw [hgs.out] at hga
            have c0 := Chg.cell hT1 (j := 0) rfl
            have c1 := Chg.cell hT1 (j := 1) rfl
            have c2 := Chg.cell hT1 (j := 2) rfl
            have c3 := Chg.cell hT1 (j := 3) rfl
            have c4 := Chg.cell hT1 (j := 4) rfl
            have c5 := Chg.cell hT1 (j := 5) rfl
            have c6 := Chg.cell hT1 (j := 6) rfl
            have c7 := Chg.cell hT1 (j := 7) rfl
            have c8 := Chg.cell hT1 (j := 8) rfl
            have c9 := Chg.cell hT1 (j := 9) rfl
            have c10 := Chg.cell hT1 (j := 10) rfl
            obtain ⟨e0, e1, e2, e3, e4, -⟩ := row_cells ha
            go_wp2_with fail
            clear c0 c1 c2 c3 c4 c5 c6 c7 c8 c9 c10 e0 e1 e2 e3 e4
            go_fit hga.out
            clear hga
            rintro e Yx ⟨kx, xx, sx, anx, lnx, cnx, aix, lix, cix, rfl, hvx, hbw⟩
            simp only [Option.isSome_some]
            simp only [Option.getD_some] at hvx
            have hT2 := hT1.keep (hbw.alloc hbw.size (.cells #[.int .i64 kx, .int .i64 xx, .string sx, .slice anx lnx cnx, .slice aix lix cix] 25))
            replace ha := block_keep ha (hbw.alloc hbw.size (.cells #[.int .i64 kx, .int .i64 xx, .string sx, .slice anx lnx cnx, .slice aix lix cix] 25))
            replace hva := hid_f (VRep.keep (hbw.alloc hbw.size (.cells #[.int .i64 kx, .int .i64 xx, .string sx, .slice anx lnx cnx, .slice aix lix cix] 25)) _ _ hva.out)
            have hx := heap_alloc_new Yx (.cells #[.int .i64 kx, .int .i64 xx, .string sx, .slice anx lnx cnx, .slice aix lix cix] 25)
            replace hvx := hid_f (VRep.keep ((Below.refl _ Yx).alloc (Nat.le_refl _) (.cells #[.int .i64 kx, .int .i64 xx, .string sx, .slice anx lnx cnx, .slice aix lix cix] 25)) _ _ hvx)
            clear hbw
            go_upto_region 6 with fail
            generalize Yx.alloc (.cells #[.int .i64 kx, .int .i64 xx, .string sx, .slice anx lnx cnx, .slice aix lix cix] 25) = Wx at hT2 hx hvx ha hva ⊢
            obtain ⟨gx, hgx⟩ : ∃ g, Yx.heap.size = g := ⟨_, rfl⟩
            rw [hgx] at hx
            rw [hgx]
            clear hgx
            have heq := hid_f (equal_law X kx xx sx anx lnx cnx aix lix cix k2 x2 s2 an2 ln2 cn2 ai2 li2 ci2 Wx hvx.out (VRep.keep hT2.below _ _ hX.out))
            clear hvx
            have c0 := Chg.cell hT2 (j := 0) rfl
            have c1 := Chg.cell hT2 (j := 1) rfl
            have c2 := Chg.cell hT2 (j := 2) rfl
            have c3 := Chg.cell hT2 (j := 3) rfl
            have c4 := Chg.cell hT2 (j := 4) rfl
            have c5 := Chg.cell hT2 (j := 5) rfl
            have c6 := Chg.cell hT2 (j := 6) rfl
            have c7 := Chg.cell hT2 (j := 7) rfl
            have c8 := Chg.cell hT2 (j := 8) rfl
            have c9 := Chg.cell hT2 (j := 9) rfl
            have c10 := Chg.cell hT2 (j := 10) rfl
            obtain ⟨e0, e1, e2, e3, e4, -⟩ := row_cells hx
            go_wp2_with fail
            clear c0 c1 c2 c3 c4 c5 c6 c7 c8 c9 c10 e0 e1 e2 e3 e4
            go_fit heq.out
            rintro e X3 ⟨rfl, hb3⟩
            have hT3 := hT2.keep hb3
            replace ha := block_keep ha hb3
            replace hva := hid_f (VRep.keep hb3 _ _ hva.out)
            clear hb3 heq hx
            have c0 := Chg.cell hT3 (j := 0) rfl
            have c1 := Chg.cell hT3 (j := 1) rfl
            have c2 := Chg.cell hT3 (j := 2) rfl
            have c3 := Chg.cell hT3 (j := 3) rfl
            have c4 := Chg.cell hT3 (j := 4) rfl
            have c5 := Chg.cell hT3 (j := 5) rfl
            have c6 := Chg.cell hT3 (j := 6) rfl
            have c7 := Chg.cell hT3 (j := 7) rfl
            have c8 := Chg.cell hT3 (j := 8) rfl
            have c9 := Chg.cell hT3 (j := 9) rfl
            have c10 := Chg.cell hT3 (j := 10) rfl
            obtain ⟨e0, e1, e2, e3, e4, -⟩ := row_cells ha
            go_wp2_with fail
            clear c0 c1 c2 c3 c4 c5 c6 c7 c8 c9 c10 e0 e1 e2 e3 e4
            go_fit (hcl _ hT3.below).out
            rintro e X5 ⟨rfl, hb5⟩
            have hT5 := hT3.keep hb5
            replace ha := block_keep ha hb5
            replace hva := hid_f (VRep.keep hb5 _ _ hva.out)
            clear hb5
            obtain ⟨zc, hzc⟩ : ∃ z, Hid (clashT P O = z) := ⟨_, hid_f rfl⟩
            rw [hzc.out]
            cases zc with
            | true =>
              go_wp2_with fail
              go_meet
              exact ⟨rfl, hT5⟩
            | false =>
              have c0 := Chg.cell hT5 (j := 0) rfl
              have c1 := Chg.cell hT5 (j := 1) rfl
              have c2 := Chg.cell hT5 (j := 2) rfl
              have c3 := Chg.cell hT5 (j := 3) rfl
              have c4 := Chg.cell hT5 (j := 4) rfl
              have c5 := Chg.cell hT5 (j := 5) rfl
              have c6 := Chg.cell hT5 (j := 6) rfl
              have c7 := Chg.cell hT5 (j := 7) rfl
              have c8 := Chg.cell hT5 (j := 8) rfl
              have c9 := Chg.cell hT5 (j := 9) rfl
              have c10 := Chg.cell hT5 (j := 10) rfl
              obtain ⟨e0, e1, e2, e3, e4, -⟩ := row_cells ha
              have hsm := hid_f (same_get (setR V P X) V ka xa sa ana lna cna aia lia cia k1 x1 s1 an1 ln1 cn1 ai1 li1 ci1 po co O _ hva.out (VRep.keep hT5.below _ _ hV.out) (hO.out.keep hT5.below) a2 zO.out (get_apart P O hzc.out V _ kV.out hset.out))
              clear hva
              go_wp2_with fail
              clear c0 c1 c2 c3 c4 c5 c6 c7 c8 c9 c10 e0 e1 e2 e3 e4
              go_fit hsm.out
              rintro e X6 ⟨rfl, hb6⟩
              have hT6 := hT5.keep hb6
              clear hb6 hsm
              go_wp2_with fail
              go_meet
              exact ⟨rfl, hT6⟩
          · have n0 : (da == 0) = false := by simpa using m0
            go_wp2_with fail
            go_meet
            exact ⟨rfl, hT1⟩
        case rest =>
          clear hT1 ha hva hda
          obtain ⟨rfl, hT0⟩ := hcut
          go_upto_region 8 with fail
          have c0 := Chg.cell hT0 (j := 0) rfl
          have c1 := Chg.cell hT0 (j := 1) rfl
          have c2 := Chg.cell hT0 (j := 2) rfl
          have c3 := Chg.cell hT0 (j := 3) rfl
          have c4 := Chg.cell hT0 (j := 4) rfl
          have c5 := Chg.cell hT0 (j := 5) rfl
          have c6 := Chg.cell hT0 (j := 6) rfl
          have c7 := Chg.cell hT0 (j := 7) rfl
          have c8 := Chg.cell hT0 (j := 8) rfl
          have c9 := Chg.cell hT0 (j := 9) rfl
          have c10 := Chg.cell hT0 (j := 10) rfl
          go_wp2_with fail
          clear c0 c1 c2 c3 c4 c5 c6 c7 c8 c9 c10
          go_fit (unset_any V k1 x1 s1 an1 ln1 cn1 ai1 li1 ci1 pp cp P _ (VRep.keep hT0.below _ _ hV.out) (hP.out.keep hT0.below) (by omega) zP (fun st hst => by have := wide_down P V wV.out st hst; omega))
          rintro e Yb ⟨kb, xb, sb, anb, lnb, cnb, aib, lib, cib, rfl, hvb, hbw⟩
          obtain ⟨ub, hub⟩ : ∃ d, Hid (unsB V P = d) := ⟨_, hid_f rfl⟩
          rw [hub.out]
          have hT1 := hT0.keep (hbw.alloc hbw.size (.cells #[.int .i64 kb, .int .i64 xb, .string sb, .slice anb lnb cnb, .slice aib lib cib] 25))
          have hb := heap_alloc_new Yb (.cells #[.int .i64 kb, .int .i64 xb, .string sb, .slice anb lnb cnb, .slice aib lib cib] 25)
          replace hvb := hid_f (VRep.keep ((Below.refl _ Yb).alloc (Nat.le_refl _) (.cells #[.int .i64 kb, .int .i64 xb, .string sb, .slice anb lnb cnb, .slice aib lib cib] 25)) _ _ hvb)
          clear hbw
          go_upto_region 9 with fail
          generalize Yb.alloc (.cells #[.int .i64 kb, .int .i64 xb, .string sb, .slice anb lnb cnb, .slice aib lib cib] 25) = Wb at hT1 hb hvb  ⊢
          obtain ⟨gb, hgb⟩ : ∃ g, Yb.heap.size = g := ⟨_, rfl⟩
          rw [hgb] at hb
          rw [hgb]
          clear hgb
          clear hT0
          go_cut [95] (fun v wx => v = .bool ub ∧ wx = Wb)
          case first =>
            go_wp2_with fail
            go_meet
            exact ⟨rfl, rfl⟩
          case rest =>
            obtain ⟨rfl, rfl⟩ := hcut
            rename_i hKK
            apply hKK
            clear hKK
            go_cut [4] (fun v wx => v = .bool false ∧ Chg w #[.int .i64 k1, .int .i64 x1, .string s1, .slice an1 ln1 cn1, .slice ai1 li1 ci1, .slice pp P.length cp, .int .i64 k2, .int .i64 x2, .string s2, .slice an2 ln2 cn2, .slice ai2 li2 ci2] wx)
            case first =>
              cases ub with
              | false =>
                go_wp2_with fail
                go_meet
                exact ⟨rfl, hT1⟩
              | true =>
                have hR : Hid (unsR V P = rdelT P V) := hid_f (by unfold unsR; rw [if_pos hub.out])
                rw [hR.out] at hvb
                obtain ⟨x0, hx0, hP0⟩ := uns_parts hub.out
                have hgb := hid_f (getR_any (rdelT P V) kb xb sb anb lnb cnb aib lib cib _ P _ hvb.out (hP.out.keep hT1.below) a1 zP.out)
                have hgone := hid_f (rdel_gone P V x0 kV.out hP0.out hx0.out)
                have c0 := Chg.cell hT1 (j := 0) rfl
                have c1 := Chg.cell hT1 (j := 1) rfl
                have c2 := Chg.cell hT1 (j := 2) rfl
                have c3 := Chg.cell hT1 (j := 3) rfl
                have c4 := Chg.cell hT1 (j := 4) rfl
                have c5 := Chg.cell hT1 (j := 5) rfl
                have c6 := Chg.cell hT1 (j := 6) rfl
                have c7 := Chg.cell hT1 (j := 7) rfl
                have c8 := Chg.cell hT1 (j := 8) rfl
                have c9 := Chg.cell hT1 (j := 9) rfl
                have c10 := Chg.cell hT1 (j := 10) rfl
                obtain ⟨e0, e1, e2, e3, e4, -⟩ := row_cells hb
                go_wp2_with fail
                clear c0 c1 c2 c3 c4 c5 c6 c7 c8 c9 c10 e0 e1 e2 e3 e4
                go_fit hgb.out
                clear hgb
                rintro e Yx ⟨kx, xx, sx, anx, lnx, cnx, aix, lix, cix, rfl, hvx, hbw⟩
                obtain ⟨bo, hbo⟩ : ∃ z, Hid ((getT (rdelT P V) P).isSome = z) := ⟨_, hid_f rfl⟩
                rw [hbo.out]
                have hkx : Hid (bo = true → kx = 0) := hid_f (fun h => gone_kind hgone.out hvx (hbo.out.trans h))
                have hT2 := hT1.keep (hbw.alloc hbw.size (.cells #[.int .i64 kx, .int .i64 xx, .string sx, .slice anx lnx cnx, .slice aix lix cix] 25))
                replace hb := block_keep hb (hbw.alloc hbw.size (.cells #[.int .i64 kx, .int .i64 xx, .string sx, .slice anx lnx cnx, .slice aix lix cix] 25))
                replace hvb := hid_f (VRep.keep (hbw.alloc hbw.size (.cells #[.int .i64 kx, .int .i64 xx, .string sx, .slice anx lnx cnx, .slice aix lix cix] 25)) _ _ hvb.out)
                have hx := heap_alloc_new Yx (.cells #[.int .i64 kx, .int .i64 xx, .string sx, .slice anx lnx cnx, .slice aix lix cix] 25)
                replace hvx := hid_f (VRep.keep ((Below.refl _ Yx).alloc (Nat.le_refl _) (.cells #[.int .i64 kx, .int .i64 xx, .string sx, .slice anx lnx cnx, .slice aix lix cix] 25)) _ _ hvx)
                clear hbw
                go_upto_region 11 with fail
                generalize Yx.alloc (.cells #[.int .i64 kx, .int .i64 xx, .string sx, .slice anx lnx cnx, .slice aix lix cix] 25) = Wx at hT2 hx hvx hb hvb ⊢
                obtain ⟨gx, hgx⟩ : ∃ g, Yx.heap.size = g := ⟨_, rfl⟩
                rw [hgx] at hx
                rw [hgx]
                clear hgx
                clear hvx
                cases bo with
                | false =>
                  clear hkx
                  have c0 := Chg.cell hT2 (j := 0) rfl
                  have c1 := Chg.cell hT2 (j := 1) rfl
                  have c2 := Chg.cell hT2 (j := 2) rfl
                  have c3 := Chg.cell hT2 (j := 3) rfl
                  have c4 := Chg.cell hT2 (j := 4) rfl
                  have c5 := Chg.cell hT2 (j := 5) rfl
                  have c6 := Chg.cell hT2 (j := 6) rfl
                  have c7 := Chg.cell hT2 (j := 7) rfl
                  have c8 := Chg.cell hT2 (j := 8) rfl
                  have c9 := Chg.cell hT2 (j := 9) rfl
                  have c10 := Chg.cell hT2 (j := 10) rfl
                  obtain ⟨e0, e1, e2, e3, e4, -⟩ := row_cells hb
                  go_wp2_with fail
                  clear c0 c1 c2 c3 c4 c5 c6 c7 c8 c9 c10 e0 e1 e2 e3 e4
                  go_fit (hcl _ hT2.below).out
                  rintro e X5 ⟨rfl, hb5⟩
                  have hT5 := hT2.keep hb5
                  replace hb := block_keep hb hb5
                  replace hvb := hid_f (VRep.keep hb5 _ _ hvb.out)
                  clear hb5
                  obtain ⟨zc, hzc⟩ : ∃ z, Hid (clashT P O = z) := ⟨_, hid_f rfl⟩
                  rw [hzc.out]
                  cases zc with
                  | true =>
                    go_wp2_with fail
                    go_meet
                    exact ⟨rfl, hT5⟩
                  | false =>
                    have c0 := Chg.cell hT5 (j := 0) rfl
                    have c1 := Chg.cell hT5 (j := 1) rfl
                    have c2 := Chg.cell hT5 (j := 2) rfl
                    have c3 := Chg.cell hT5 (j := 3) rfl
                    have c4 := Chg.cell hT5 (j := 4) rfl
                    have c5 := Chg.cell hT5 (j := 5) rfl
                    have c6 := Chg.cell hT5 (j := 6) rfl
                    have c7 := Chg.cell hT5 (j := 7) rfl
                    have c8 := Chg.cell hT5 (j := 8) rfl
                    have c9 := Chg.cell hT5 (j := 9) rfl
                    have c10 := Chg.cell hT5 (j := 10) rfl
                    obtain ⟨e0, e1, e2, e3, e4, -⟩ := row_cells hb
                    have hsm := hid_f (same_get (rdelT P V) V kb xb sb anb lnb cnb aib lib cib k1 x1 s1 an1 ln1 cn1 ai1 li1 ci1 po co O _ hvb.out (VRep.keep hT5.below _ _ hV.out) (hO.out.keep hT5.below) a2 zO.out (rdel_apart P O hzc.out V x0 kV.out hx0.out))
                    clear hvb
                    go_wp2_with fail
                    clear c0 c1 c2 c3 c4 c5 c6 c7 c8 c9 c10 e0 e1 e2 e3 e4
                    go_fit hsm.out
                    rintro e X6 ⟨rfl, hb6⟩
                    have hT6 := hT5.keep hb6
                    clear hb6 hsm
                    go_wp2_with fail
                    go_meet
                    exact ⟨rfl, hT6⟩
                | true =>
                  have hk0 := hkx.out rfl
                  subst hk0
                  clear hkx
                  have c0 := Chg.cell hT2 (j := 0) rfl
                  have c1 := Chg.cell hT2 (j := 1) rfl
                  have c2 := Chg.cell hT2 (j := 2) rfl
                  have c3 := Chg.cell hT2 (j := 3) rfl
                  have c4 := Chg.cell hT2 (j := 4) rfl
                  have c5 := Chg.cell hT2 (j := 5) rfl
                  have c6 := Chg.cell hT2 (j := 6) rfl
                  have c7 := Chg.cell hT2 (j := 7) rfl
                  have c8 := Chg.cell hT2 (j := 8) rfl
                  have c9 := Chg.cell hT2 (j := 9) rfl
                  have c10 := Chg.cell hT2 (j := 10) rfl
                  obtain ⟨e0, e1, e2, e3, e4, -⟩ := row_cells hb
                  obtain ⟨f0, f1, f2, f3, f4, -⟩ := row_cells hx
                  go_wp2_with fail
                  clear c0 c1 c2 c3 c4 c5 c6 c7 c8 c9 c10 e0 e1 e2 e3 e4 f0 f1 f2 f3 f4
                  go_fit (hcl _ hT2.below).out
                  rintro e X5 ⟨rfl, hb5⟩
                  have hT5 := hT2.keep hb5
                  replace hb := block_keep hb hb5
                  replace hvb := hid_f (VRep.keep hb5 _ _ hvb.out)
                  clear hb5
                  obtain ⟨zc, hzc⟩ : ∃ z, Hid (clashT P O = z) := ⟨_, hid_f rfl⟩
                  rw [hzc.out]
                  cases zc with
                  | true =>
                    go_wp2_with fail
                    go_meet
                    exact ⟨rfl, hT5⟩
                  | false =>
                    have c0 := Chg.cell hT5 (j := 0) rfl
                    have c1 := Chg.cell hT5 (j := 1) rfl
                    have c2 := Chg.cell hT5 (j := 2) rfl
                    have c3 := Chg.cell hT5 (j := 3) rfl
                    have c4 := Chg.cell hT5 (j := 4) rfl
                    have c5 := Chg.cell hT5 (j := 5) rfl
                    have c6 := Chg.cell hT5 (j := 6) rfl
                    have c7 := Chg.cell hT5 (j := 7) rfl
                    have c8 := Chg.cell hT5 (j := 8) rfl
                    have c9 := Chg.cell hT5 (j := 9) rfl
                    have c10 := Chg.cell hT5 (j := 10) rfl
                    obtain ⟨e0, e1, e2, e3, e4, -⟩ := row_cells hb
                    have hsm := hid_f (same_get (rdelT P V) V kb xb sb anb lnb cnb aib lib cib k1 x1 s1 an1 ln1 cn1 ai1 li1 ci1 po co O _ hvb.out (VRep.keep hT5.below _ _ hV.out) (hO.out.keep hT5.below) a2 zO.out (rdel_apart P O hzc.out V x0 kV.out hx0.out))
                    clear hvb
                    go_wp2_with fail
                    clear c0 c1 c2 c3 c4 c5 c6 c7 c8 c9 c10 e0 e1 e2 e3 e4
                    go_fit hsm.out
                    rintro e X6 ⟨rfl, hb6⟩
                    have hT6 := hT5.keep hb6
                    clear hb6 hsm
                    go_wp2_with fail
                    go_meet
                    exact ⟨rfl, hT6⟩
            case rest =>
              clear hT1 hb hvb hub hcl
              obtain ⟨rfl, hT0⟩ := hcut
              go_upto_region 13 with fail
              have c0 := Chg.cell hT0 (j := 0) rfl
              have c1 := Chg.cell hT0 (j := 1) rfl
              have c2 := Chg.cell hT0 (j := 2) rfl
              have c3 := Chg.cell hT0 (j := 3) rfl
              have c4 := Chg.cell hT0 (j := 4) rfl
              have c5 := Chg.cell hT0 (j := 5) rfl
              have c6 := Chg.cell hT0 (j := 6) rfl
              have c7 := Chg.cell hT0 (j := 7) rfl
              have c8 := Chg.cell hT0 (j := 8) rfl
              have c9 := Chg.cell hT0 (j := 9) rfl
              have c10 := Chg.cell hT0 (j := 10) rfl
              go_wp2_with fail
              clear c0 c1 c2 c3 c4 c5 c6 c7 c8 c9 c10
              go_fit (getR_any V k1 x1 s1 an1 ln1 cn1 ai1 li1 ci1 _ P _ (VRep.keep hT0.below _ _ hV.out) (hP.out.keep hT0.below) a1 zP.out)
              rintro e Yx ⟨kx, xx, sx, anx, lnx, cnx, aix, lix, cix, rfl, hvx, hbw⟩
              cases hg0 : getT V P with
              | none =>
                simp only [Option.isSome_none]
                have hT1 := hT0.keep (hbw.alloc hbw.size (.cells #[.int .i64 kx, .int .i64 xx, .string sx, .slice anx lnx cnx, .slice aix lix cix] 25))
                clear hbw hT0 hvx hg0
                go_wp2_with fail
                go_fit (live_true _)
                rintro e W9 ⟨rfl, hb9⟩
                go_wp2_with fail
                go_ret
                exact ⟨rfl, hT1.below.trans (hb9.mono hT1.below.size)⟩
              | some x0 =>
                simp only [Option.isSome_some]
                rw [hg0] at hvx
                simp only [Option.getD_some] at hvx
                replace hg0 := hid_f hg0
                have hT1 := hT0.keep (hbw.alloc hbw.size (.cells #[.int .i64 kx, .int .i64 xx, .string sx, .slice anx lnx cnx, .slice aix lix cix] 25))
                have hx := heap_alloc_new Yx (.cells #[.int .i64 kx, .int .i64 xx, .string sx, .slice anx lnx cnx, .slice aix lix cix] 25)
                replace hvx := hid_f (VRep.keep ((Below.refl _ Yx).alloc (Nat.le_refl _) (.cells #[.int .i64 kx, .int .i64 xx, .string sx, .slice anx lnx cnx, .slice aix lix cix] 25)) _ _ hvx)
                clear hbw
                go_upto_region 14 with fail
                generalize Yx.alloc (.cells #[.int .i64 kx, .int .i64 xx, .string sx, .slice anx lnx cnx, .slice aix lix cix] 25) = Wx at hT1 hx hvx  ⊢
                obtain ⟨gx, hgx⟩ : ∃ g, Yx.heap.size = g := ⟨_, rfl⟩
                rw [hgx] at hx
                rw [hgx]
                clear hgx
                clear hT0
                have hd0 := hid_f (down_get P V x0 hg0.out)
                have hset := hid_f (setR_some (X := x0) hd0.out)
                have hsc := hid_f (setR_any V x0 k1 x1 s1 an1 ln1 cn1 ai1 li1 ci1 kx xx sx anx lnx cnx aix lix cix _ P _ (VRep.keep hT1.below _ _ hV.out) hvx.out (hP.out.keep hT1.below) a1 zP.out (wide_more V wV.out))
                rw [hd0.out] at hsc
                have c0 := Chg.cell hT1 (j := 0) rfl
                have c1 := Chg.cell hT1 (j := 1) rfl
                have c2 := Chg.cell hT1 (j := 2) rfl
                have c3 := Chg.cell hT1 (j := 3) rfl
                have c4 := Chg.cell hT1 (j := 4) rfl
                have c5 := Chg.cell hT1 (j := 5) rfl
                have c6 := Chg.cell hT1 (j := 6) rfl
                have c7 := Chg.cell hT1 (j := 7) rfl
                have c8 := Chg.cell hT1 (j := 8) rfl
                have c9 := Chg.cell hT1 (j := 9) rfl
                have c10 := Chg.cell hT1 (j := 10) rfl
                obtain ⟨e0, e1, e2, e3, e4, -⟩ := row_cells hx
                go_wp2_with fail
                clear c0 c1 c2 c3 c4 c5 c6 c7 c8 c9 c10 e0 e1 e2 e3 e4
                go_fit hsc.out
                clear hsc
                rintro e Yd ⟨kd, xd, sd, and, lnd, cnd, aid, lid, cid, rfl, hvd, hbw⟩
                have hT2 := hT1.keep (hbw.alloc hbw.size (.cells #[.int .i64 kd, .int .i64 xd, .string sd, .slice and lnd cnd, .slice aid lid cid] 25))
                replace hx := block_keep hx (hbw.alloc hbw.size (.cells #[.int .i64 kd, .int .i64 xd, .string sd, .slice and lnd cnd, .slice aid lid cid] 25))
                replace hvx := hid_f (VRep.keep (hbw.alloc hbw.size (.cells #[.int .i64 kd, .int .i64 xd, .string sd, .slice and lnd cnd, .slice aid lid cid] 25)) _ _ hvx.out)
                have hd := heap_alloc_new Yd (.cells #[.int .i64 kd, .int .i64 xd, .string sd, .slice and lnd cnd, .slice aid lid cid] 25)
                replace hvd := hid_f (VRep.keep ((Below.refl _ Yd).alloc (Nat.le_refl _) (.cells #[.int .i64 kd, .int .i64 xd, .string sd, .slice and lnd cnd, .slice aid lid cid] 25)) _ _ hvd)
                clear hbw
                go_upto_region 17 with fail
                generalize Yd.alloc (.cells #[.int .i64 kd, .int .i64 xd, .string sd, .slice and lnd cnd, .slice aid lid cid] 25) = Wd at hT2 hd hvd hx hvx ⊢
                obtain ⟨gd, hgd⟩ : ∃ g, Yd.heap.size = g := ⟨_, rfl⟩
                rw [hgd] at hd
                rw [hgd]
                clear hgd
                clear hT1
                have hgs := hid_f (get_same P V _ kV.out hset.out)
                have hga := hid_f (getR_any (setR V P x0) kd xd sd and lnd cnd aid lid cid _ P _ hvd.out (hP.out.keep hT2.below) a1 zP.out)
                rw [hgs.out] at hga
                have c0 := Chg.cell hT2 (j := 0) rfl
                have c1 := Chg.cell hT2 (j := 1) rfl
                have c2 := Chg.cell hT2 (j := 2) rfl
                have c3 := Chg.cell hT2 (j := 3) rfl
                have c4 := Chg.cell hT2 (j := 4) rfl
                have c5 := Chg.cell hT2 (j := 5) rfl
                have c6 := Chg.cell hT2 (j := 6) rfl
                have c7 := Chg.cell hT2 (j := 7) rfl
                have c8 := Chg.cell hT2 (j := 8) rfl
                have c9 := Chg.cell hT2 (j := 9) rfl
                have c10 := Chg.cell hT2 (j := 10) rfl
                obtain ⟨e0, e1, e2, e3, e4, -⟩ := row_cells hd
                go_wp2_with fail
                clear c0 c1 c2 c3 c4 c5 c6 c7 c8 c9 c10 e0 e1 e2 e3 e4
                go_fit hga.out
                clear hga
                rintro e Yy ⟨ky, xy, sy, any, lny, cny, aiy, liy, ciy, rfl, hvy, hbw⟩
                simp only [Option.isSome_some]
                simp only [Option.getD_some] at hvy
                have hT3 := hT2.keep (hbw.alloc hbw.size (.cells #[.int .i64 ky, .int .i64 xy, .string sy, .slice any lny cny, .slice aiy liy ciy] 25))
                replace hx := block_keep hx (hbw.alloc hbw.size (.cells #[.int .i64 ky, .int .i64 xy, .string sy, .slice any lny cny, .slice aiy liy ciy] 25))
                replace hvx := hid_f (VRep.keep (hbw.alloc hbw.size (.cells #[.int .i64 ky, .int .i64 xy, .string sy, .slice any lny cny, .slice aiy liy ciy] 25)) _ _ hvx.out)
                replace hd := block_keep hd (hbw.alloc hbw.size (.cells #[.int .i64 ky, .int .i64 xy, .string sy, .slice any lny cny, .slice aiy liy ciy] 25))
                replace hvd := hid_f (VRep.keep (hbw.alloc hbw.size (.cells #[.int .i64 ky, .int .i64 xy, .string sy, .slice any lny cny, .slice aiy liy ciy] 25)) _ _ hvd.out)
                have hy := heap_alloc_new Yy (.cells #[.int .i64 ky, .int .i64 xy, .string sy, .slice any lny cny, .slice aiy liy ciy] 25)
                replace hvy := hid_f (VRep.keep ((Below.refl _ Yy).alloc (Nat.le_refl _) (.cells #[.int .i64 ky, .int .i64 xy, .string sy, .slice any lny cny, .slice aiy liy ciy] 25)) _ _ hvy)
                clear hbw
                go_upto_region 18 with fail
                generalize Yy.alloc (.cells #[.int .i64 ky, .int .i64 xy, .string sy, .slice any lny cny, .slice aiy liy ciy] 25) = Wy at hT3 hy hvy hx hvx hd hvd ⊢
                obtain ⟨gy, hgy⟩ : ∃ g, Yy.heap.size = g := ⟨_, rfl⟩
                rw [hgy] at hy
                rw [hgy]
                clear hgy
                clear hT2
                have heq := hid_f (equal_law x0 kx xx sx anx lnx cnx aix lix cix ky xy sy any lny cny aiy liy ciy Wy hvx.out hvy.out)
                clear hvx hvy
                obtain ⟨e0, e1, e2, e3, e4, -⟩ := row_cells hx
                obtain ⟨f0, f1, f2, f3, f4, -⟩ := row_cells hy
                go_wp2_with (go_at_call 11; refine (num_any _ _).mono ?_; rintro e w9 ⟨rfl, rfl⟩)
                go_fit heq.out
                rintro e X3 ⟨rfl, hb3⟩
                have hT4 := hT3.keep hb3
                replace hd := block_keep hd hb3
                replace hvd := hid_f (VRep.keep hb3 _ _ hvd.out)
                clear hb3 heq hx hy e0 e1 e2 e3 e4 f0 f1 f2 f3 f4 hT3
                have c0 := Chg.cell hT4 (j := 0) rfl
                have c1 := Chg.cell hT4 (j := 1) rfl
                have c2 := Chg.cell hT4 (j := 2) rfl
                have c3 := Chg.cell hT4 (j := 3) rfl
                have c4 := Chg.cell hT4 (j := 4) rfl
                have c5 := Chg.cell hT4 (j := 5) rfl
                have c6 := Chg.cell hT4 (j := 6) rfl
                have c7 := Chg.cell hT4 (j := 7) rfl
                have c8 := Chg.cell hT4 (j := 8) rfl
                have c9 := Chg.cell hT4 (j := 9) rfl
                have c10 := Chg.cell hT4 (j := 10) rfl
                have hck := hid_f (checks_any V k1 x1 s1 an1 ln1 cn1 ai1 li1 ci1 X3 (VRep.keep hT4.below _ _ hV.out) hsV.out)
                go_wp2_with fail
                clear c0 c1 c2 c3 c4 c5 c6 c7 c8 c9 c10
                go_fit hck.out
                rintro e X5 ⟨⟨z, rfl, hz⟩, hb5⟩
                have hT5 := hT4.keep hb5
                replace hd := block_keep hd hb5
                replace hvd := hid_f (VRep.keep hb5 _ _ hvd.out)
                clear hb5 hck hT4
                by_cases z0 : z = 0
                · subst z0
                  replace hz := hid_f (hz rfl)
                  have c0 := Chg.cell hT5 (j := 0) rfl
                  have c1 := Chg.cell hT5 (j := 1) rfl
                  have c2 := Chg.cell hT5 (j := 2) rfl
                  have c3 := Chg.cell hT5 (j := 3) rfl
                  have c4 := Chg.cell hT5 (j := 4) rfl
                  have c5 := Chg.cell hT5 (j := 5) rfl
                  have c6 := Chg.cell hT5 (j := 6) rfl
                  have c7 := Chg.cell hT5 (j := 7) rfl
                  have c8 := Chg.cell hT5 (j := 8) rfl
                  have c9 := Chg.cell hT5 (j := 9) rfl
                  have c10 := Chg.cell hT5 (j := 10) rfl
                  by_cases hp0 : P = []
                  · have hl0 : ((P.length : Int) == 0) = true := by rw [hp0]; rfl
                    clear hp0
                    go_wp2_with fail
                    go_ret
                    exact ⟨rfl, hT5.below⟩
                  · have hl0 : ((P.length : Int) == 0) = false := by have : P.length ≠ 0 := fun e => hp0 (List.eq_nil_of_length_eq_zero e); simpa using this
                    clear hp0
                    have hdV := set_there P V x0 _ kV.out hz.out hg0.out hset.out
                    rw [hdV] at hvd
                    have heq := hid_f (equal_law V kd xd sd and lnd cnd aid lid cid k1 x1 s1 an1 ln1 cn1 ai1 li1 ci1 X5 hvd.out (VRep.keep hT5.below _ _ hV.out))
                    clear hvd hdV hset hgs
                    obtain ⟨e0, e1, e2, e3, e4, -⟩ := row_cells hd
                    go_wp2_with fail
                    clear c0 c1 c2 c3 c4 c5 c6 c7 c8 c9 c10 e0 e1 e2 e3 e4
                    go_fit heq.out
                    rintro e X6 ⟨rfl, hb6⟩
                    have hT6 := hT5.keep hb6
                    clear hb6 heq hT5
                    go_wp2_with fail
                    go_fit (live_true _)
                    rintro e W9 ⟨rfl, hb9⟩
                    go_wp2_with fail
                    go_ret
                    exact ⟨rfl, hT6.below.trans (hb9.mono hT6.below.size)⟩
                · have hz1 : (z == 0) = false := by simpa using z0
                  clear hz
                  go_wp2_with fail
                  go_ret
                  exact ⟨rfl, hT5.below⟩
    · clear hz
      go_wp2_with fail
      go_fit (live_true _)
      rintro e W9 ⟨rfl, hb9⟩
      go_wp2_with fail
      go_ret
      exact ⟨rfl, hT0.below.trans (hb9.mono hT0.below.size)⟩
end Go.Proofs.Ytmlbofbnklmedaa
