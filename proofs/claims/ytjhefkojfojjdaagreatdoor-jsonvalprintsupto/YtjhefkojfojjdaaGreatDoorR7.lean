import Derived.Test.YtjhefkojfojjdaaGreatDoorR5
import Derived.Test.YtjhefkojfojjdaaGreatDoorR6
import Derived.Test.YtjhefkojfojjdaaGreatDoorBJ
import Derived.Test.YtjhefkojfojjdaaGreatDoorJ0
import Derived.Lib.ConvBytes
/-! The document's written: a value's text. -/
namespace Go.Proofs.YtjhefkojfojjdaaGreatDoor.Tree
open Go Go.RowKit

/-- The slice reads as these bytes. -/
def ReadsB (w : World) (v : Value) (l : List UInt8) : Prop := ∃ b o c, v = .slice (some ⟨b, o, none⟩) l.length c ∧ ∀ j u, (Lib.byteCells l)[j]? = some u → w.cell? ⟨b, o + j, none⟩ = some u
theorem own_readsB {lo : Nat} {w : World} {v : Value} {l : List UInt8} (h : OwnB lo w v l) : ReadsB w v l := by
  obtain ⟨g, cap, rfl, -, hown⟩ := h
  refine ⟨g, 0, cap, rfl, fun j u hu => ?_⟩
  have := hown.cells (g := g) rfl j u hu
  rwa [add_off] at this
theorem bytesW_readsB (w : World) (l : List UInt8) (c : Nat) : ReadsB (Lib.bytesWorld w 5 ⟨l.toArray⟩) (.slice (some ⟨w.heap.size, 0, none⟩) l.length c) l := by
  refine ⟨w.heap.size, 0, c, rfl, fun j u hu => ?_⟩
  have hj : j < l.length := by
    have := (List.getElem?_eq_some_iff.1 hu).1
    simpa [Lib.byteCells] using this
  rw [Nat.zero_add, Lib.bytesWorld_cell w 5 ⟨l.toArray⟩ j (by show j < l.toArray.size; simpa using hj)]
  simp [Lib.byteCells, List.getElem?_eq_getElem hj] at hu
  rw [← hu]
  simp [List.getElem?_eq_getElem hj]
theorem bytesW_below (w : World) (s : ByteArray) : Below w.heap.size w (Lib.bytesWorld w 5 s) :=
  ⟨rfl, rfl, rfl, by rw [Lib.bytesWorld_size]; omega, fun k hk => Lib.bytesWorld_at_old w _ s k hk⟩
theorem buildB (w : World) (l : List UInt8) (hm : l.length ≤ 100) : OwnB w.heap.size (w.alloc (.cells (Lib.byteCells l).toArray 5)) (.slice (some ⟨w.heap.size, 0, none⟩) l.length l.length) l := by
  have hl : (Lib.byteCells l).length = l.length := by simp [Lib.byteCells]
  exact ⟨w.heap.size, l.length, rfl, Nat.le_refl _, ⟨by rw [hl]; omega, .inr ⟨w.heap.size, l.length, _, rfl, Nat.le_refl _, heap_alloc_new w _, Nat.le_refl _, by unfold maxLen; omega, by simp [hl], by rw [List.take_of_length_le (by simp [hl])]⟩⟩⟩
theorem src_str {P : Program} (w : World) {tx : TypeId} (hk : P.underlying tx = some .string) (l : List UInt8) : Src P 1 tx (.string ⟨l.toArray⟩) l.length (Lib.byteCells l) w := by
  have h := Src.ofString (P := P) w hk ⟨l.toArray⟩
  have e1 : (⟨l.toArray⟩ : ByteArray).size = l.length := by show l.toArray.size = _; simp
  have e2 : byteCells ⟨l.toArray⟩ = Lib.byteCells l := by unfold byteCells Lib.byteCells; simp
  rw [e1, e2] at h
  exact h
theorem src_reads {P : Program} (w : World) {tx e : TypeId} (hk : P.underlying tx = some (.slice e)) {v : Value} {l : List UInt8} (h : ReadsB w v l) : Src P 1 tx v l.length (Lib.byteCells l) w := by
  obtain ⟨b, o, c, rfl, hc⟩ := h
  exact Src.ofSlice w hk ⟨b, o, none⟩ l.length c _ (by simp [Lib.byteCells]) (fun j u hu => by rw [add_off]; exact hc j u hu) (fun u hu => by obtain ⟨_, _, rfl⟩ := List.mem_map.1 hu; rfl)
theorem own_keep {lo : Nat} {w w' : World} {g n cap : Nat} {xs : List Value} (h : w.ownsRow lo 5 1 (.slice (some ⟨g, 0, none⟩) n cap) n xs) (hb : Below w.heap.size w w') : w'.ownsRow lo 5 1 (.slice (some ⟨g, 0, none⟩) n cap) n xs := by
  refine ownsRow_keep h (fun k hk => ?_)
  have : g = k := by simpa [Value.ownBlock] using hk
  subst this
  exact hb.block _ (own_ge h)
/-- What the walk asks of the items. -/
def WrittenOks (its : List Tr) : Prop := ∀ (i : Nat) (u : Tr), its[i]? = some u → ∀ (cs : List Value) (w : World), VRep w u cs →
  Calls Tryz.prog 22 #[.agg cs.toArray] w fun e w' => (∃ v, e = .returned v ∧ ReadsB w' v (textT u)) ∧ Below w.heap.size w w'
theorem accT_mono (pre f : Nat → List UInt8) {a b : Nat} (h : a ≤ b) : (accT pre f a).length ≤ (accT pre f b).length := accT_len pre f h

theorem cells_ne {lo : Nat} {w : World} {g n cap : Nat} {xs : List Value} {b : Array Value} (h : w.ownsRow lo 5 1 (.slice (some ⟨g, 0, none⟩) n cap) n xs) (hx : w.heap[g]? = some (.cells b 25 (0, 0))) : False := by
  rcases h.2 with ⟨hv, _⟩ | ⟨g', cap', cur, hv, hg, hh, _⟩
  · cases hv
  · cases hv
    rw [hx] at hh
    simp at hh
set_option maxHeartbeats 8000000 in
set_option maxRecDepth 100000 in
theorem written_5 (x : Int) (s : ByteArray) (an : Option Addr) (cn : Nat) (ns : List ByteArray) (ai : Option Addr) (ci : Nat) (its : List Tr) (w : World) (hml : its.length ≤ 8796093021952) (hT : (textT (.node 5 x s ns its)).length ≤ 1000000000) (hL : Hid (ItemsAt' w ai its)) (hI : Hid (WrittenOks its)) :
    Calls Tryz.prog 22 #[.agg #[.int .i64 5, .int .i64 x, .string s, .slice an ns.length cn, .slice ai its.length ci]] w fun e w' => (∃ v, e = .returned v ∧ ReadsB w' v (textT (.node 5 x s ns its))) ∧ Below w.heap.size w w' := by
  obtain ⟨i5, hi5, hz0, hz1, hz2⟩ := info_parts Q5
  rw [textT_list] at hT ⊢
  obtain ⟨ac, hac⟩ : ∃ f, Hid (accT (fun _ => []) (fun i => (textsT its).getD i []) = f) := ⟨_, hid_e rfl⟩
  have hstep : Hid (∀ i, ac (i + 1) = ac i ++ sepT i ++ ([] : List UInt8) ++ (textsT its).getD i []) := by rw [Hid, ← hac.out]; intro i; rw [accT]
  have h0 : Hid (ac 0 = []) := by rw [Hid, ← hac.out, accT]
  have hmono : Hid (∀ i, i ≤ its.length → (ac i).length ≤ 1000000000) := by
    rw [Hid, ← hac.out]
    intro i hi
    have h1 := accT_mono (fun _ => []) (fun i => (textsT its).getD i []) hi
    simp only [List.length_append, List.length_cons, List.length_nil] at hT
    omega
  rw [show accT (fun _ => []) (fun i => (textsT its).getD i []) its.length = ac its.length by rw [hac.out]]
  clear hac hT
  go_enter Tryz.func22, Tryz.ntmps22
  go_upto_region 13 with fail
  have hb0 : Below w.heap.size w ((w.alloc (.cells #[.int .i64 5, .int .i64 x, .string s, .slice an ns.length cn, .slice ai its.length ci] 25)).alloc (.cells #[.int .u8 91] 5)) := ((Below.refl _ w).alloc (Nat.le_refl _) _).alloc (by simp) _
  have hx0 := new1 w (.cells #[.int .i64 5, .int .i64 x, .string s, .slice an ns.length cn, .slice ai its.length ci] 25) (.cells #[.int .u8 91] 5)
  have ho0 : OwnB w.heap.size ((w.alloc (.cells #[.int .i64 5, .int .i64 x, .string s, .slice an ns.length cn, .slice ai its.length ci] 25)).alloc (.cells #[.int .u8 91] 5)) (.slice (some ⟨w.heap.size + 1, 0, none⟩) 1 1) ([91] ++ ac 0) := by
    rw [h0.out]
    have h1 := buildB (w.alloc (.cells #[.int .i64 5, .int .i64 x, .string s, .slice an ns.length cn, .slice ai its.length ci] 25)) [91] (by decide)
    rw [World.size_alloc] at h1
    obtain ⟨g, cap, e, hge, hown⟩ := h1
    exact ⟨g, cap, e, by omega, ownsRow_lower hown (by omega)⟩
  generalize (w.alloc (.cells #[.int .i64 5, .int .i64 x, .string s, .slice an ns.length cn, .slice ai its.length ci] 25)).alloc (.cells #[.int .u8 91] 5) = W0 at hb0 hx0 ho0 ⊢
  obtain ⟨B0, hB0⟩ : ∃ B, Hid (Value.slice (some ⟨w.heap.size + 1, 0, none⟩) 1 1 = B) := ⟨_, hid_e rfl⟩
  rw [hB0.out] at ho0
  try rw [hB0.out]
  clear hB0
  obtain ⟨y0, -, -, -, y4, -⟩ := row_cells hx0
  go_wp2_with fail
  clear y0 y4
  go_loopw [3, 5] (fun v iv wr => ∃ i : Nat, i ≤ its.length ∧ iv = .int .i64 i ∧ Below w.heap.size w wr ∧ wr.heap[w.heap.size]? = some (.cells #[.int .i64 5, .int .i64 x, .string s, .slice an ns.length cn, .slice ai its.length ci] 25 (0, 0)) ∧ Hid (OwnB w.heap.size wr v ([91] ++ ac i))) (fun _ iv _ => its.length - (intOf iv).toNat)
  case atStart => exact ⟨0, Nat.zero_le _, rfl, hb0, hx0, ho0⟩
  case round =>
    clear hb0 hx0 ho0
    obtain ⟨i, hi, rfl, HB, hx, hO⟩ := hrel
    obtain ⟨l, hl⟩ : ∃ l, Hid ([91] ++ ac i = l) := ⟨_, hid_e rfl⟩
    rw [hl.out] at hO
    have hll : l.length ≤ 1000000001 := by rw [← hl.out, List.length_append]; have := hmono.out i hi; simp; omega
    obtain ⟨g, cap, rfl, hge, hown⟩ := hO.out
    clear hO
    obtain ⟨y0, -, -, y3, y4, -⟩ := row_cells hx
    by_cases hlt : i < its.length
    · have hd : decide ((i : Int) < (its.length : Int)) = true := by simp; omega
      have i1 : (i : Int) < (its.length : Int) := by omega
      obtain ⟨u, hu⟩ : ∃ u, Hid (its[i]? = some u) := ⟨_, hid_e (List.getElem?_eq_getElem hlt)⟩
      obtain ⟨b, o, rfl, hb, hV⟩ := hL.out.resolve_left (by intro e; subst e; simp at hlt)
      obtain ⟨cs, hia, hr⟩ := VRepL.at its o i u hV hu.out
      obtain ⟨k2, x2, s2, an2, ln2, cn2, ai2, li2, ci2, rfl⟩ := vrep_five hr
      have hcall := fun W (hW : Below w.heap.size w W) => hid_e (hI.out i u hu.out _ W (VRep.keep hW _ _ hr))
      have htx := hid_e (textsT_at hu.out)
      obtain ⟨tu, htu⟩ : ∃ z, Hid (textT u = z) := ⟨_, hid_e rfl⟩
      rw [htu.out] at hcall htx
      have hst := hid_e (hstep.out i)
      rw [htx.out] at hst
      have hmx := hid_e (hmono.out (i + 1) (by omega))
      replace hia := hid_e hia
      clear hV hr
      by_cases h0i : i = 0
      · have g0 : ¬ ((i : Int) > 0) := by omega
        have hsep : Hid (sepT i = []) := by rw [Hid, sepT, if_pos h0i]
        clear h0i
        have hxs := hx
        clear y0 y3 y4
        obtain ⟨y0, -, -, -, y4, -⟩ := row_cells hxs
        have z0 := stay HB (hia.out 0 _ rfl)
        have z1 := stay HB (hia.out 1 _ rfl)
        have z2 := stay HB (hia.out 2 _ rfl)
        have z3 := stay HB (hia.out 3 _ rfl)
        have z4 := stay HB (hia.out 4 _ rfl)
        simp only [Nat.add_zero] at z0
        go_wp2_with fail
        go_fit (hcall _ HB).out
        rintro e Wt ⟨⟨v, rfl, hrb⟩, hbt⟩
        clear z0 z1 z2 z3 z4 y0 y4
        have HBt : Below w.heap.size w Wt := HB.trans (hbt.mono HB.size)
        have hxt := (hbt.block _ (Array.getElem?_eq_some_iff.1 hxs).1).trans hxs
        have hownt := own_keep hown hbt
        replace hrb := hid_e hrb
        have hbdt : l.length + tu.length ≤ maxLen ∧ (l.length + tu.length) * 1 ≤ 140737488355328 := by
          have h1 := hst.out
          have h2 := hmx.out
          rw [h1] at h2
          simp only [List.length_append] at h2
          unfold maxLen
          have h4 := hl.out; subst h4; simp only [List.length_append, List.length_cons, List.length_nil]
          omega
        go_wp2_with (at_builtin; refine wpList_append_src _ rfl _ _ 40 40 rfl w.heap.size 5 i5 _ 1 Tryz.underlying40 hi5 hz0 hz1 hz2 rfl g l.length cap _ rfl hownt _ tu.length (Lib.byteCells tu) rfl (src_reads _ Tryz.underlying40 hrb.out) (hbdt).1 (hbdt).2 HBt.size ?_; intro gf capf Wf hownf hgrow hat)
        obtain ⟨lf, hlf⟩ : ∃ z, Hid (l ++ tu = z) := ⟨_, hid_e rfl⟩
        have hnf : Hid (l.length + tu.length = lf.length) := by rw [Hid, ← hlf.out, List.length_append]
        have hgef : w.heap.size ≤ gf := by
          rcases hat with h | h
          · rw [h]; exact hge
          · rw [h]; exact HBt.size
        have HBf := below_grown HBt hgrow hge
        rw [hnf.out, ← Lib.byteCells_append, hlf.out] at hownf
        rw [hnf.out]
        have hxf : Wf.heap[w.heap.size]? = some (.cells #[.int .i64 5, .int .i64 x, .string s, .slice an ns.length cn, .slice (some ⟨b, o, none⟩) its.length ci] 25 (0, 0)) := (hgrow.block _ (Array.getElem?_eq_some_iff.1 hxt).1 (fun e => by injection e with e; subst e; exact cells_ne hownt hxt)).trans hxt
        have hO' : Hid (OwnB w.heap.size Wf (.slice (some ⟨gf, 0, none⟩) lf.length capf) ([91] ++ ac (i + 1))) := by
          have e : [91] ++ ac (i + 1) = lf := by
            rw [← hlf.out, hst.out, hsep.out, ← hl.out]
            simp []
          rw [Hid, e]
          exact ⟨gf, capf, rfl, hgef, hownf⟩
        clear hgrow hat hownt hownf hrb
        go_wp2_with fail
        go_roundw
        case rel => exact ⟨i + 1, by omega, by simp, HBf, hxf, hO'⟩
        case measure => simp [intOf]; omega
      · have g0 : ((i : Int) > 0) := by omega
        have hsep : Hid (sepT i = [44]) := by rw [Hid, sepT, if_neg h0i]
        clear h0i
        have HBs : Below w.heap.size w (wr.alloc (.cells #[.int .u8 44] 5)) := HB.alloc HB.size _
        have hbds : l.length + 1 ≤ maxLen ∧ (l.length + 1) * 1 ≤ 140737488355328 := by unfold maxLen; omega
        go_upto_region 22 with (at_builtin; refine wpList_append_src _ rfl _ _ 40 40 rfl w.heap.size 5 i5 _ 1 Tryz.underlying40 hi5 hz0 hz1 hz2 rfl g l.length cap _ rfl (hown.alloc _) _ 1 (Lib.byteCells [44]) rfl (Src.ofSlice _ Tryz.underlying40 ⟨wr.heap.size, 0, none⟩ 1 1 _ rfl (World.news_of_block (heap_alloc_new wr (.cells #[.int .u8 44] 5))) (fun u hu => by obtain ⟨_, _, rfl⟩ := List.mem_map.1 hu; rfl)) (hbds).1 (hbds).2 HBs.size ?_; intro gz capz Wz hownz hgrow hat)
        obtain ⟨lz, hlz⟩ : ∃ z, Hid (l ++ [44] = z) := ⟨_, hid_e rfl⟩
        have hnz : Hid (l.length + 1 = lz.length) := by rw [Hid, ← hlz.out, List.length_append]; rfl
        have hgez : w.heap.size ≤ gz := by
          rcases hat with h | h
          · rw [h]; exact hge
          · rw [h]; exact HBs.size
        have HBz := below_grown HBs hgrow hge
        rw [hnz.out, ← Lib.byteCells_append, hlz.out] at hownz
        rw [hnz.out]
        have hxs : Wz.heap[w.heap.size]? = some (.cells #[.int .i64 5, .int .i64 x, .string s, .slice an ns.length cn, .slice (some ⟨b, o, none⟩) its.length ci] 25 (0, 0)) := (hgrow.block _ (by simp; have := (Array.getElem?_eq_some_iff.1 hx).1; omega) (fun e => by injection e with e; subst e; exact cells_ne hown hx)).trans ((alloc_old (Array.getElem?_eq_some_iff.1 hx).1).trans hx)
        clear hgrow hat hown y0 y3 y4 HBs
        obtain ⟨y0, -, -, -, y4, -⟩ := row_cells hxs
        have z0 := stay HBz (hia.out 0 _ rfl)
        have z1 := stay HBz (hia.out 1 _ rfl)
        have z2 := stay HBz (hia.out 2 _ rfl)
        have z3 := stay HBz (hia.out 3 _ rfl)
        have z4 := stay HBz (hia.out 4 _ rfl)
        simp only [Nat.add_zero] at z0
        go_wp2_with fail
        go_fit (hcall _ HBz).out
        rintro e Wt ⟨⟨v, rfl, hrb⟩, hbt⟩
        clear z0 z1 z2 z3 z4 y0 y4
        have HBt : Below w.heap.size w Wt := HBz.trans (hbt.mono HBz.size)
        have hxt := (hbt.block _ (Array.getElem?_eq_some_iff.1 hxs).1).trans hxs
        have hownt := own_keep hownz hbt
        replace hrb := hid_e hrb
        have hbdt : lz.length + tu.length ≤ maxLen ∧ (lz.length + tu.length) * 1 ≤ 140737488355328 := by
          have h1 := hst.out
          have h2 := hmx.out
          rw [h1] at h2
          simp only [List.length_append] at h2
          unfold maxLen
          have h4 := hl.out; have h5 := hnz.out; subst h4; rw [← h5]; simp only [List.length_append, List.length_cons, List.length_nil]
          omega
        go_wp2_with (at_builtin; refine wpList_append_src _ rfl _ _ 40 40 rfl w.heap.size 5 i5 _ 1 Tryz.underlying40 hi5 hz0 hz1 hz2 rfl gz lz.length capz _ rfl hownt _ tu.length (Lib.byteCells tu) rfl (src_reads _ Tryz.underlying40 hrb.out) (hbdt).1 (hbdt).2 HBt.size ?_; intro gf capf Wf hownf hgrow hat)
        obtain ⟨lf, hlf⟩ : ∃ z, Hid (lz ++ tu = z) := ⟨_, hid_e rfl⟩
        have hnf : Hid (lz.length + tu.length = lf.length) := by rw [Hid, ← hlf.out, List.length_append]
        have hgef : w.heap.size ≤ gf := by
          rcases hat with h | h
          · rw [h]; exact hgez
          · rw [h]; exact HBt.size
        have HBf := below_grown HBt hgrow hgez
        rw [hnf.out, ← Lib.byteCells_append, hlf.out] at hownf
        rw [hnf.out]
        have hxf : Wf.heap[w.heap.size]? = some (.cells #[.int .i64 5, .int .i64 x, .string s, .slice an ns.length cn, .slice (some ⟨b, o, none⟩) its.length ci] 25 (0, 0)) := (hgrow.block _ (Array.getElem?_eq_some_iff.1 hxt).1 (fun e => by injection e with e; subst e; exact cells_ne hownt hxt)).trans hxt
        have hO' : Hid (OwnB w.heap.size Wf (.slice (some ⟨gf, 0, none⟩) lf.length capf) ([91] ++ ac (i + 1))) := by
          have e : [91] ++ ac (i + 1) = lf := by
            rw [← hlf.out, hst.out, hsep.out, ← hlz.out, ← hl.out]
            simp []
          rw [Hid, e]
          exact ⟨gf, capf, rfl, hgef, hownf⟩
        clear hgrow hat hownt hownf hrb
        go_wp2_with fail
        go_roundw
        case rel => exact ⟨i + 1, by omega, by simp, HBf, hxf, hO'⟩
        case measure => simp [intOf]; omega
    · have hd : decide ((i : Int) < (its.length : Int)) = false := by simp; omega
      obtain rfl : i = its.length := by omega
      have HBe : Below w.heap.size w (wr.alloc (.cells #[.int .u8 93] 5)) := HB.alloc HB.size _
      have hbde : l.length + 1 ≤ maxLen ∧ (l.length + 1) * 1 ≤ 140737488355328 := by unfold maxLen; omega
      go_wp2_with (at_builtin; refine wpList_append_src _ rfl _ _ 40 40 rfl w.heap.size 5 i5 _ 1 Tryz.underlying40 hi5 hz0 hz1 hz2 rfl g l.length cap _ rfl (hown.alloc _) _ 1 (Lib.byteCells [93]) rfl (Src.ofSlice _ Tryz.underlying40 ⟨wr.heap.size, 0, none⟩ 1 1 _ rfl (World.news_of_block (heap_alloc_new wr (.cells #[.int .u8 93] 5))) (fun u hu => by obtain ⟨_, _, rfl⟩ := List.mem_map.1 hu; rfl)) (hbde).1 (hbde).2 HBe.size ?_; intro ge cape We howne hgrow hat)
      obtain ⟨le, hle⟩ : ∃ z, Hid (l ++ [93] = z) := ⟨_, hid_e rfl⟩
      have hne : Hid (l.length + 1 = le.length) := by rw [Hid, ← hle.out, List.length_append]; rfl
      have hgee : w.heap.size ≤ ge := by
        rcases hat with h | h
        · rw [h]; exact hge
        · rw [h]; exact HBe.size
      have HBe' := below_grown HBe hgrow hge
      rw [hne.out, ← Lib.byteCells_append, hle.out] at howne
      rw [hne.out]
      have hO' : Hid (ReadsB We (.slice (some ⟨ge, 0, none⟩) le.length cape) ([91] ++ ac its.length ++ [93])) := by
        have e : [91] ++ ac its.length ++ [93] = le := by rw [← hle.out, ← hl.out]
        rw [Hid, e]
        exact own_readsB ⟨ge, cape, rfl, hgee, howne⟩
      clear hgrow hat hown howne
      go_wp2_with fail
      go_ret
      exact ⟨⟨_, rfl, hO'.out⟩, HBe'⟩
set_option maxHeartbeats 8000000 in
set_option maxRecDepth 100000 in
theorem written_6 (x : Int) (s : ByteArray) (an : Option Addr) (cn : Nat) (ns : List ByteArray) (ai : Option Addr) (ci : Nat) (its : List Tr) (w : World) (hnm : Hid (ns.length = its.length)) (hz : Hid (∀ n ∈ ns, n.size ≤ 1000000000)) (hml : its.length ≤ 8796093021952) (hT : (textT (.node 6 x s ns its)).length ≤ 1000000000) (hR : Hid (Reads w (.slice an its.length cn) ns)) (hL : Hid (ItemsAt' w ai its)) (hI : Hid (WrittenOks its)) :
    Calls Tryz.prog 22 #[.agg #[.int .i64 6, .int .i64 x, .string s, .slice an its.length cn, .slice ai its.length ci]] w fun e w' => (∃ v, e = .returned v ∧ ReadsB w' v (textT (.node 6 x s ns its))) ∧ Below w.heap.size w w' := by
  obtain ⟨i5, hi5, hz0, hz1, hz2⟩ := info_parts Q5
  rw [textT_obj] at hT ⊢
  obtain ⟨ac, hac⟩ : ∃ f, Hid (accT (fun i => qT (nth ns i) ++ [58]) (fun i => (textsT its).getD i []) = f) := ⟨_, hid_e rfl⟩
  have hstep : Hid (∀ i, ac (i + 1) = ac i ++ sepT i ++ (qT (nth ns i) ++ [58]) ++ (textsT its).getD i []) := by rw [Hid, ← hac.out]; intro i; rw [accT]
  have h0 : Hid (ac 0 = []) := by rw [Hid, ← hac.out, accT]
  have hmono : Hid (∀ i, i ≤ its.length → (ac i).length ≤ 1000000000) := by
    rw [Hid, ← hac.out]
    intro i hi
    have h1 := accT_mono (fun i => qT (nth ns i) ++ [58]) (fun i => (textsT its).getD i []) hi
    simp only [List.length_append, List.length_cons, List.length_nil] at hT
    omega
  rw [show accT (fun i => qT (nth ns i) ++ [58]) (fun i => (textsT its).getD i []) its.length = ac its.length by rw [hac.out]]
  clear hac hT
  go_enter Tryz.func22, Tryz.ntmps22
  go_upto_region 16 with fail
  have hb0 : Below w.heap.size w (((w.alloc (.cells #[.int .i64 6, .int .i64 x, .string s, .slice an its.length cn, .slice ai its.length ci] 25)).alloc (.cells #[.int .u8 91] 5)).alloc (.cells #[.int .u8 123] 5)) := (((Below.refl _ w).alloc (Nat.le_refl _) _).alloc (by simp) _).alloc (by rw [World.size_alloc, World.size_alloc]; omega) _
  have hx0 := (alloc_old (w := (w.alloc (.cells #[.int .i64 6, .int .i64 x, .string s, .slice an its.length cn, .slice ai its.length ci] 25)).alloc (.cells #[.int .u8 91] 5)) (o := .cells #[.int .u8 123] 5) (k := w.heap.size) (by rw [World.size_alloc, World.size_alloc]; omega)).trans (new1 w (.cells #[.int .i64 6, .int .i64 x, .string s, .slice an its.length cn, .slice ai its.length ci] 25) (.cells #[.int .u8 91] 5))
  have ho0 : OwnB w.heap.size (((w.alloc (.cells #[.int .i64 6, .int .i64 x, .string s, .slice an its.length cn, .slice ai its.length ci] 25)).alloc (.cells #[.int .u8 91] 5)).alloc (.cells #[.int .u8 123] 5)) (.slice (some ⟨w.heap.size + 2, 0, none⟩) 1 1) ([123] ++ ac 0) := by
    rw [h0.out]
    have h1 := buildB ((w.alloc (.cells #[.int .i64 6, .int .i64 x, .string s, .slice an its.length cn, .slice ai its.length ci] 25)).alloc (.cells #[.int .u8 91] 5)) [123] (by decide)
    rw [World.size_alloc, World.size_alloc] at h1
    obtain ⟨g, cap, e, hge, hown⟩ := h1
    exact ⟨g, cap, e, by omega, ownsRow_lower hown (by omega)⟩
  generalize ((w.alloc (.cells #[.int .i64 6, .int .i64 x, .string s, .slice an its.length cn, .slice ai its.length ci] 25)).alloc (.cells #[.int .u8 91] 5)).alloc (.cells #[.int .u8 123] 5) = W0 at hb0 hx0 ho0 ⊢
  obtain ⟨B0, hB0⟩ : ∃ B, Hid (Value.slice (some ⟨w.heap.size + 2, 0, none⟩) 1 1 = B) := ⟨_, hid_e rfl⟩
  rw [hB0.out] at ho0
  try rw [hB0.out]
  clear hB0
  obtain ⟨y0, -, -, -, y4, -⟩ := row_cells hx0
  go_wp2_with fail
  clear y0 y4
  go_loopw [3, 5] (fun v iv wr => ∃ i : Nat, i ≤ its.length ∧ iv = .int .i64 i ∧ Below w.heap.size w wr ∧ wr.heap[w.heap.size]? = some (.cells #[.int .i64 6, .int .i64 x, .string s, .slice an its.length cn, .slice ai its.length ci] 25 (0, 0)) ∧ Hid (OwnB w.heap.size wr v ([123] ++ ac i))) (fun _ iv _ => its.length - (intOf iv).toNat)
  case atStart => exact ⟨0, Nat.zero_le _, rfl, hb0, hx0, ho0⟩
  case round =>
    clear hb0 hx0 ho0
    obtain ⟨i, hi, rfl, HB, hx, hO⟩ := hrel
    obtain ⟨l, hl⟩ : ∃ l, Hid ([123] ++ ac i = l) := ⟨_, hid_e rfl⟩
    rw [hl.out] at hO
    have hll : l.length ≤ 1000000001 := by rw [← hl.out, List.length_append]; have := hmono.out i hi; simp; omega
    obtain ⟨g, cap, rfl, hge, hown⟩ := hO.out
    clear hO
    obtain ⟨y0, -, -, y3, y4, -⟩ := row_cells hx
    by_cases hlt : i < its.length
    · have hd : decide ((i : Int) < (its.length : Int)) = true := by simp; omega
      have i1 : (i : Int) < (its.length : Int) := by omega
      obtain ⟨u, hu⟩ : ∃ u, Hid (its[i]? = some u) := ⟨_, hid_e (List.getElem?_eq_getElem hlt)⟩
      obtain ⟨b, o, rfl, hb, hV⟩ := hL.out.resolve_left (by intro e; subst e; simp at hlt)
      obtain ⟨cs, hia, hr⟩ := VRepL.at its o i u hV hu.out
      obtain ⟨k2, x2, s2, an2, ln2, cn2, ai2, li2, ci2, rfl⟩ := vrep_five hr
      have hcall := fun W (hW : Below w.heap.size w W) => hid_e (hI.out i u hu.out _ W (VRep.keep hW _ _ hr))
      have htx := hid_e (textsT_at hu.out)
      obtain ⟨tu, htu⟩ : ∃ z, Hid (textT u = z) := ⟨_, hid_e rfl⟩
      rw [htu.out] at hcall htx
      have hst := hid_e (hstep.out i)
      rw [htx.out] at hst
      have hmx := hid_e (hmono.out (i + 1) (by omega))
      replace hia := hid_e hia
      clear hV hr
      have hpn : i < ns.length := by rw [hnm.out]; exact hlt
      obtain ⟨gn, on, rfl, cc⟩ := reads_at hR.out (nth_at hpn)
      obtain ⟨nm, hnme⟩ : ∃ z, Hid (nth ns i = z) := ⟨_, hid_e rfl⟩
      rw [hnme.out] at cc hst
      have hzs : nm.size ≤ 1000000000 := by rw [← hnme.out]; exact hz.out _ (List.mem_of_getElem? (nth_at hpn))
      have hqc := fun W => hid_e (quoted_code nm hzs W)
      obtain ⟨qt, hqt⟩ : ∃ z, Hid (qT nm = z) := ⟨_, hid_e rfl⟩
      rw [hqt.out] at hqc hst
      replace cc := hid_e cc
      by_cases h0i : i = 0
      · have g0 : ¬ ((i : Int) > 0) := by omega
        have hsep : Hid (sepT i = []) := by rw [Hid, sepT, if_pos h0i]
        clear h0i
        have hxs := hx
        obtain ⟨y0, -, -, y3, y4, -⟩ := row_cells hxs
        have n1 := stay HB cc.out
        go_wp2_with fail
        go_fit (hqc _).out
        rintro e Wq ⟨rfl, hbq⟩
        have HBq : Below w.heap.size w Wq := HB.trans (hbq.mono HB.size)
        have hxq := (hbq.block _ (Array.getElem?_eq_some_iff.1 hxs).1).trans hxs
        have hownq := own_keep hown hbq
        clear hbq n1 y0 y3 y4
        have hbdq : l.length + qt.length ≤ maxLen ∧ (l.length + qt.length) * 1 ≤ 140737488355328 := by
          have h1 := hst.out
          have h2 := hmx.out
          rw [h1] at h2
          simp only [List.length_append] at h2
          unfold maxLen
          have h4 := hl.out; subst h4; simp only [List.length_append, List.length_cons, List.length_nil]
          omega
        go_upto_region 24 with (at_builtin; refine wpList_append_src _ rfl _ _ 40 9 rfl w.heap.size 5 i5 _ 1 Tryz.underlying40 hi5 hz0 hz1 hz2 rfl g l.length cap _ rfl hownq (.string ⟨qt.toArray⟩) qt.length (Lib.byteCells qt) rfl (src_str _ Tryz.underlying9 qt) (hbdq).1 (hbdq).2 HBq.size ?_; intro ga capa Wa howna hgrow hat)
        obtain ⟨la, hla⟩ : ∃ z, Hid (l ++ qt = z) := ⟨_, hid_e rfl⟩
        have hna : Hid (l.length + qt.length = la.length) := by rw [Hid, ← hla.out, List.length_append]
        have hgea : w.heap.size ≤ ga := by
          rcases hat with h | h
          · rw [h]; exact hge
          · rw [h]; exact HBq.size
        have HBa := below_grown HBq hgrow hge
        rw [hna.out, ← Lib.byteCells_append, hla.out] at howna
        rw [hna.out]
        have hxa : Wa.heap[w.heap.size]? = some (.cells #[.int .i64 6, .int .i64 x, .string s, .slice (some ⟨gn, on, none⟩) its.length cn, .slice (some ⟨b, o, none⟩) its.length ci] 25 (0, 0)) := (hgrow.block _ (Array.getElem?_eq_some_iff.1 hxq).1 (fun e => by injection e with e; subst e; exact cells_ne hownq hxq)).trans hxq
        clear hgrow hat hownq hxq
        have HBc0 : Below w.heap.size w (Wa.alloc (.cells #[.int .u8 58] 5)) := HBa.alloc HBa.size _
        have hbdc : la.length + 1 ≤ maxLen ∧ (la.length + 1) * 1 ≤ 140737488355328 := by
          have h1 := hst.out
          have h2 := hmx.out
          rw [h1] at h2
          simp only [List.length_append] at h2
          unfold maxLen
          rw [← hna.out]
          have h4 := hl.out; subst h4; simp only [List.length_append, List.length_cons, List.length_nil]
          omega
        go_upto_region 25 with (at_builtin; refine wpList_append_src _ rfl _ _ 40 40 rfl w.heap.size 5 i5 _ 1 Tryz.underlying40 hi5 hz0 hz1 hz2 rfl ga la.length capa _ rfl (howna.alloc _) _ 1 (Lib.byteCells [58]) rfl (Src.ofSlice _ Tryz.underlying40 ⟨Wa.heap.size, 0, none⟩ 1 1 _ rfl (World.news_of_block (heap_alloc_new Wa (.cells #[.int .u8 58] 5))) (fun u hu => by obtain ⟨_, _, rfl⟩ := List.mem_map.1 hu; rfl)) (hbdc).1 (hbdc).2 HBc0.size ?_; intro gc capc Wc hownc hgrow hat)
        obtain ⟨lc, hlc⟩ : ∃ z, Hid (la ++ [58] = z) := ⟨_, hid_e rfl⟩
        have hnc : Hid (la.length + 1 = lc.length) := by rw [Hid, ← hlc.out, List.length_append]; rfl
        have hgec : w.heap.size ≤ gc := by
          rcases hat with h | h
          · rw [h]; exact hgea
          · rw [h]; exact HBc0.size
        have HBc := below_grown HBc0 hgrow hgea
        rw [hnc.out, ← Lib.byteCells_append, hlc.out] at hownc
        rw [hnc.out]
        have hxc : Wc.heap[w.heap.size]? = some (.cells #[.int .i64 6, .int .i64 x, .string s, .slice (some ⟨gn, on, none⟩) its.length cn, .slice (some ⟨b, o, none⟩) its.length ci] 25 (0, 0)) := (hgrow.block _ (by simp; have := (Array.getElem?_eq_some_iff.1 hxa).1; omega) (fun e => by injection e with e; subst e; exact cells_ne howna hxa)).trans ((alloc_old (Array.getElem?_eq_some_iff.1 hxa).1).trans hxa)
        clear hgrow hat howna hxa HBc0
        obtain ⟨y0, -, -, -, y4, -⟩ := row_cells hxc
        have z0 := stay HBc (hia.out 0 _ rfl)
        have z1 := stay HBc (hia.out 1 _ rfl)
        have z2 := stay HBc (hia.out 2 _ rfl)
        have z3 := stay HBc (hia.out 3 _ rfl)
        have z4 := stay HBc (hia.out 4 _ rfl)
        simp only [Nat.add_zero] at z0
        go_wp2_with fail
        go_fit (hcall _ HBc).out
        rintro e Wt ⟨⟨v, rfl, hrb⟩, hbt⟩
        clear z0 z1 z2 z3 z4 y0 y4
        have HBt : Below w.heap.size w Wt := HBc.trans (hbt.mono HBc.size)
        have hxt := (hbt.block _ (Array.getElem?_eq_some_iff.1 hxc).1).trans hxc
        have hownt := own_keep hownc hbt
        replace hrb := hid_e hrb
        have hbdt : lc.length + tu.length ≤ maxLen ∧ (lc.length + tu.length) * 1 ≤ 140737488355328 := by
          have h1 := hst.out
          have h2 := hmx.out
          rw [h1] at h2
          simp only [List.length_append] at h2
          unfold maxLen
          have h4 := hl.out; have h6 := hna.out; have h7 := hnc.out; subst h4; rw [← h7, ← h6]; simp only [List.length_append, List.length_cons, List.length_nil]
          omega
        go_wp2_with (at_builtin; refine wpList_append_src _ rfl _ _ 40 40 rfl w.heap.size 5 i5 _ 1 Tryz.underlying40 hi5 hz0 hz1 hz2 rfl gc lc.length capc _ rfl hownt _ tu.length (Lib.byteCells tu) rfl (src_reads _ Tryz.underlying40 hrb.out) (hbdt).1 (hbdt).2 HBt.size ?_; intro gf capf Wf hownf hgrow hat)
        obtain ⟨lf, hlf⟩ : ∃ z, Hid (lc ++ tu = z) := ⟨_, hid_e rfl⟩
        have hnf : Hid (lc.length + tu.length = lf.length) := by rw [Hid, ← hlf.out, List.length_append]
        have hgef : w.heap.size ≤ gf := by
          rcases hat with h | h
          · rw [h]; exact hgec
          · rw [h]; exact HBt.size
        have HBf := below_grown HBt hgrow hgec
        rw [hnf.out, ← Lib.byteCells_append, hlf.out] at hownf
        rw [hnf.out]
        have hxf : Wf.heap[w.heap.size]? = some (.cells #[.int .i64 6, .int .i64 x, .string s, .slice (some ⟨gn, on, none⟩) its.length cn, .slice (some ⟨b, o, none⟩) its.length ci] 25 (0, 0)) := (hgrow.block _ (Array.getElem?_eq_some_iff.1 hxt).1 (fun e => by injection e with e; subst e; exact cells_ne hownt hxt)).trans hxt
        have hO' : Hid (OwnB w.heap.size Wf (.slice (some ⟨gf, 0, none⟩) lf.length capf) ([123] ++ ac (i + 1))) := by
          have e : [123] ++ ac (i + 1) = lf := by
            rw [← hlf.out, hst.out, hsep.out, ← hlc.out, ← hla.out, ← hl.out]
            simp []
          rw [Hid, e]
          exact ⟨gf, capf, rfl, hgef, hownf⟩
        clear hgrow hat hownt hownf hrb
        go_wp2_with fail
        go_roundw
        case rel => exact ⟨i + 1, by omega, by simp, HBf, hxf, hO'⟩
        case measure => simp [intOf]; omega
      · have g0 : ((i : Int) > 0) := by omega
        have hsep : Hid (sepT i = [44]) := by rw [Hid, sepT, if_neg h0i]
        clear h0i
        have HBs : Below w.heap.size w (wr.alloc (.cells #[.int .u8 44] 5)) := HB.alloc HB.size _
        have hbds : l.length + 1 ≤ maxLen ∧ (l.length + 1) * 1 ≤ 140737488355328 := by unfold maxLen; omega
        go_upto_region 22 with (at_builtin; refine wpList_append_src _ rfl _ _ 40 40 rfl w.heap.size 5 i5 _ 1 Tryz.underlying40 hi5 hz0 hz1 hz2 rfl g l.length cap _ rfl (hown.alloc _) _ 1 (Lib.byteCells [44]) rfl (Src.ofSlice _ Tryz.underlying40 ⟨wr.heap.size, 0, none⟩ 1 1 _ rfl (World.news_of_block (heap_alloc_new wr (.cells #[.int .u8 44] 5))) (fun u hu => by obtain ⟨_, _, rfl⟩ := List.mem_map.1 hu; rfl)) (hbds).1 (hbds).2 HBs.size ?_; intro gz capz Wz hownz hgrow hat)
        obtain ⟨lz, hlz⟩ : ∃ z, Hid (l ++ [44] = z) := ⟨_, hid_e rfl⟩
        have hnz : Hid (l.length + 1 = lz.length) := by rw [Hid, ← hlz.out, List.length_append]; rfl
        have hgez : w.heap.size ≤ gz := by
          rcases hat with h | h
          · rw [h]; exact hge
          · rw [h]; exact HBs.size
        have HBz := below_grown HBs hgrow hge
        rw [hnz.out, ← Lib.byteCells_append, hlz.out] at hownz
        rw [hnz.out]
        have hxs : Wz.heap[w.heap.size]? = some (.cells #[.int .i64 6, .int .i64 x, .string s, .slice (some ⟨gn, on, none⟩) its.length cn, .slice (some ⟨b, o, none⟩) its.length ci] 25 (0, 0)) := (hgrow.block _ (by simp; have := (Array.getElem?_eq_some_iff.1 hx).1; omega) (fun e => by injection e with e; subst e; exact cells_ne hown hx)).trans ((alloc_old (Array.getElem?_eq_some_iff.1 hx).1).trans hx)
        clear hgrow hat hown y0 y3 y4 HBs
        obtain ⟨y0, -, -, y3, y4, -⟩ := row_cells hxs
        have n1 := stay HBz cc.out
        go_wp2_with fail
        go_fit (hqc _).out
        rintro e Wq ⟨rfl, hbq⟩
        have HBq : Below w.heap.size w Wq := HBz.trans (hbq.mono HBz.size)
        have hxq := (hbq.block _ (Array.getElem?_eq_some_iff.1 hxs).1).trans hxs
        have hownq := own_keep hownz hbq
        clear hbq n1 y0 y3 y4
        have hbdq : lz.length + qt.length ≤ maxLen ∧ (lz.length + qt.length) * 1 ≤ 140737488355328 := by
          have h1 := hst.out
          have h2 := hmx.out
          rw [h1] at h2
          simp only [List.length_append] at h2
          unfold maxLen
          have h4 := hl.out; have h5 := hnz.out; subst h4; rw [← h5]; simp only [List.length_append, List.length_cons, List.length_nil]
          omega
        go_upto_region 24 with (at_builtin; refine wpList_append_src _ rfl _ _ 40 9 rfl w.heap.size 5 i5 _ 1 Tryz.underlying40 hi5 hz0 hz1 hz2 rfl gz lz.length capz _ rfl hownq (.string ⟨qt.toArray⟩) qt.length (Lib.byteCells qt) rfl (src_str _ Tryz.underlying9 qt) (hbdq).1 (hbdq).2 HBq.size ?_; intro ga capa Wa howna hgrow hat)
        obtain ⟨la, hla⟩ : ∃ z, Hid (lz ++ qt = z) := ⟨_, hid_e rfl⟩
        have hna : Hid (lz.length + qt.length = la.length) := by rw [Hid, ← hla.out, List.length_append]
        have hgea : w.heap.size ≤ ga := by
          rcases hat with h | h
          · rw [h]; exact hgez
          · rw [h]; exact HBq.size
        have HBa := below_grown HBq hgrow hgez
        rw [hna.out, ← Lib.byteCells_append, hla.out] at howna
        rw [hna.out]
        have hxa : Wa.heap[w.heap.size]? = some (.cells #[.int .i64 6, .int .i64 x, .string s, .slice (some ⟨gn, on, none⟩) its.length cn, .slice (some ⟨b, o, none⟩) its.length ci] 25 (0, 0)) := (hgrow.block _ (Array.getElem?_eq_some_iff.1 hxq).1 (fun e => by injection e with e; subst e; exact cells_ne hownq hxq)).trans hxq
        clear hgrow hat hownq hxq
        have HBc0 : Below w.heap.size w (Wa.alloc (.cells #[.int .u8 58] 5)) := HBa.alloc HBa.size _
        have hbdc : la.length + 1 ≤ maxLen ∧ (la.length + 1) * 1 ≤ 140737488355328 := by
          have h1 := hst.out
          have h2 := hmx.out
          rw [h1] at h2
          simp only [List.length_append] at h2
          unfold maxLen
          rw [← hna.out]
          have h4 := hl.out; have h5 := hnz.out; subst h4; rw [← h5]; simp only [List.length_append, List.length_cons, List.length_nil]
          omega
        go_upto_region 25 with (at_builtin; refine wpList_append_src _ rfl _ _ 40 40 rfl w.heap.size 5 i5 _ 1 Tryz.underlying40 hi5 hz0 hz1 hz2 rfl ga la.length capa _ rfl (howna.alloc _) _ 1 (Lib.byteCells [58]) rfl (Src.ofSlice _ Tryz.underlying40 ⟨Wa.heap.size, 0, none⟩ 1 1 _ rfl (World.news_of_block (heap_alloc_new Wa (.cells #[.int .u8 58] 5))) (fun u hu => by obtain ⟨_, _, rfl⟩ := List.mem_map.1 hu; rfl)) (hbdc).1 (hbdc).2 HBc0.size ?_; intro gc capc Wc hownc hgrow hat)
        obtain ⟨lc, hlc⟩ : ∃ z, Hid (la ++ [58] = z) := ⟨_, hid_e rfl⟩
        have hnc : Hid (la.length + 1 = lc.length) := by rw [Hid, ← hlc.out, List.length_append]; rfl
        have hgec : w.heap.size ≤ gc := by
          rcases hat with h | h
          · rw [h]; exact hgea
          · rw [h]; exact HBc0.size
        have HBc := below_grown HBc0 hgrow hgea
        rw [hnc.out, ← Lib.byteCells_append, hlc.out] at hownc
        rw [hnc.out]
        have hxc : Wc.heap[w.heap.size]? = some (.cells #[.int .i64 6, .int .i64 x, .string s, .slice (some ⟨gn, on, none⟩) its.length cn, .slice (some ⟨b, o, none⟩) its.length ci] 25 (0, 0)) := (hgrow.block _ (by simp; have := (Array.getElem?_eq_some_iff.1 hxa).1; omega) (fun e => by injection e with e; subst e; exact cells_ne howna hxa)).trans ((alloc_old (Array.getElem?_eq_some_iff.1 hxa).1).trans hxa)
        clear hgrow hat howna hxa HBc0
        obtain ⟨y0, -, -, -, y4, -⟩ := row_cells hxc
        have z0 := stay HBc (hia.out 0 _ rfl)
        have z1 := stay HBc (hia.out 1 _ rfl)
        have z2 := stay HBc (hia.out 2 _ rfl)
        have z3 := stay HBc (hia.out 3 _ rfl)
        have z4 := stay HBc (hia.out 4 _ rfl)
        simp only [Nat.add_zero] at z0
        go_wp2_with fail
        go_fit (hcall _ HBc).out
        rintro e Wt ⟨⟨v, rfl, hrb⟩, hbt⟩
        clear z0 z1 z2 z3 z4 y0 y4
        have HBt : Below w.heap.size w Wt := HBc.trans (hbt.mono HBc.size)
        have hxt := (hbt.block _ (Array.getElem?_eq_some_iff.1 hxc).1).trans hxc
        have hownt := own_keep hownc hbt
        replace hrb := hid_e hrb
        have hbdt : lc.length + tu.length ≤ maxLen ∧ (lc.length + tu.length) * 1 ≤ 140737488355328 := by
          have h1 := hst.out
          have h2 := hmx.out
          rw [h1] at h2
          simp only [List.length_append] at h2
          unfold maxLen
          have h4 := hl.out; have h5 := hnz.out; have h6 := hna.out; have h7 := hnc.out; subst h4; rw [← h7, ← h6, ← h5]; simp only [List.length_append, List.length_cons, List.length_nil]
          omega
        go_wp2_with (at_builtin; refine wpList_append_src _ rfl _ _ 40 40 rfl w.heap.size 5 i5 _ 1 Tryz.underlying40 hi5 hz0 hz1 hz2 rfl gc lc.length capc _ rfl hownt _ tu.length (Lib.byteCells tu) rfl (src_reads _ Tryz.underlying40 hrb.out) (hbdt).1 (hbdt).2 HBt.size ?_; intro gf capf Wf hownf hgrow hat)
        obtain ⟨lf, hlf⟩ : ∃ z, Hid (lc ++ tu = z) := ⟨_, hid_e rfl⟩
        have hnf : Hid (lc.length + tu.length = lf.length) := by rw [Hid, ← hlf.out, List.length_append]
        have hgef : w.heap.size ≤ gf := by
          rcases hat with h | h
          · rw [h]; exact hgec
          · rw [h]; exact HBt.size
        have HBf := below_grown HBt hgrow hgec
        rw [hnf.out, ← Lib.byteCells_append, hlf.out] at hownf
        rw [hnf.out]
        have hxf : Wf.heap[w.heap.size]? = some (.cells #[.int .i64 6, .int .i64 x, .string s, .slice (some ⟨gn, on, none⟩) its.length cn, .slice (some ⟨b, o, none⟩) its.length ci] 25 (0, 0)) := (hgrow.block _ (Array.getElem?_eq_some_iff.1 hxt).1 (fun e => by injection e with e; subst e; exact cells_ne hownt hxt)).trans hxt
        have hO' : Hid (OwnB w.heap.size Wf (.slice (some ⟨gf, 0, none⟩) lf.length capf) ([123] ++ ac (i + 1))) := by
          have e : [123] ++ ac (i + 1) = lf := by
            rw [← hlf.out, hst.out, hsep.out, ← hlc.out, ← hla.out, ← hlz.out, ← hl.out]
            simp []
          rw [Hid, e]
          exact ⟨gf, capf, rfl, hgef, hownf⟩
        clear hgrow hat hownt hownf hrb
        go_wp2_with fail
        go_roundw
        case rel => exact ⟨i + 1, by omega, by simp, HBf, hxf, hO'⟩
        case measure => simp [intOf]; omega
    · have hd : decide ((i : Int) < (its.length : Int)) = false := by simp; omega
      obtain rfl : i = its.length := by omega
      have HBe : Below w.heap.size w (wr.alloc (.cells #[.int .u8 125] 5)) := HB.alloc HB.size _
      have hbde : l.length + 1 ≤ maxLen ∧ (l.length + 1) * 1 ≤ 140737488355328 := by unfold maxLen; omega
      go_wp2_with (at_builtin; refine wpList_append_src _ rfl _ _ 40 40 rfl w.heap.size 5 i5 _ 1 Tryz.underlying40 hi5 hz0 hz1 hz2 rfl g l.length cap _ rfl (hown.alloc _) _ 1 (Lib.byteCells [125]) rfl (Src.ofSlice _ Tryz.underlying40 ⟨wr.heap.size, 0, none⟩ 1 1 _ rfl (World.news_of_block (heap_alloc_new wr (.cells #[.int .u8 125] 5))) (fun u hu => by obtain ⟨_, _, rfl⟩ := List.mem_map.1 hu; rfl)) (hbde).1 (hbde).2 HBe.size ?_; intro ge cape We howne hgrow hat)
      obtain ⟨le, hle⟩ : ∃ z, Hid (l ++ [125] = z) := ⟨_, hid_e rfl⟩
      have hne : Hid (l.length + 1 = le.length) := by rw [Hid, ← hle.out, List.length_append]; rfl
      have hgee : w.heap.size ≤ ge := by
        rcases hat with h | h
        · rw [h]; exact hge
        · rw [h]; exact HBe.size
      have HBe' := below_grown HBe hgrow hge
      rw [hne.out, ← Lib.byteCells_append, hle.out] at howne
      rw [hne.out]
      have hO' : Hid (ReadsB We (.slice (some ⟨ge, 0, none⟩) le.length cape) ([123] ++ ac its.length ++ [125])) := by
        have e : [123] ++ ac its.length ++ [125] = le := by rw [← hle.out, ← hl.out]
        rw [Hid, e]
        exact own_readsB ⟨ge, cape, rfl, hgee, howne⟩
      clear hgrow hat hown howne
      go_wp2_with fail
      go_ret
      exact ⟨⟨_, rfl, hO'.out⟩, HBe'⟩
end Go.Proofs.YtjhefkojfojjdaaGreatDoor.Tree
