import Derived.Test.YtnccaidlcaeeaaaGreatDoorPS
import Derived.Test.YtnccaidlcaeeaaaGreatDoorOJ
import Derived.Test.YtnccaidlcaeeaaaGreatDoorZ2
import Derived.Test.YtnccaidlcaeeaaaGreatDoorW26
/-! What the reader answers lies in lists of its own; how great it may be. -/
namespace Go.Proofs.YtnccaidlcaeeaaaGreatDoor.Tree
open Go Go.RowKit

theorem own_flat (w : World) (k x : Int) (s : ByteArray) (lo hi : Nat) : ∃ h : HT, h.head = five k x s nilS nilS ∧ h.tr = .node k x s [] [] ∧ OwnF w h ∧ ∀ b ∈ bksT h, lo ≤ b ∧ b < hi := by
  refine ⟨.node k x s nilS nilS [] [], rfl, by unfold HT.tr trL; rfl, ownF_node (World.ownsRow_nil _ _ _ _) (World.ownsRow_nil _ _ _ _) (ownFL_nil _) (.inl rfl) (fun g hg => by simp [bksL_nil] at hg), fun b hb => ?_⟩
  rw [bksT_node, bksL_nil] at hb
  simp [nilS, Value.ownBlock] at hb
mutual
theorem rep_own {w : World} : (j : J) → (lo hi : Nat) → (cs : List Value) → Rep w lo hi j cs → ∃ h : HT, h.head = cs ∧ h.tr = ofJ j ∧ OwnF w h ∧ ∀ b ∈ bksT h, lo ≤ b ∧ b < hi
  | .null, lo, hi, cs, h => by
    have h' : cs = five 0 0 noS nilS nilS := h
    rw [h', ofJ]; exact own_flat w _ _ _ lo hi
  | .fls, lo, hi, cs, h => by
    have h' : cs = five 1 0 noS nilS nilS := h
    rw [h', ofJ]; exact own_flat w _ _ _ lo hi
  | .tru, lo, hi, cs, h => by
    have h' : cs = five 2 0 noS nilS nilS := h
    rw [h', ofJ]; exact own_flat w _ _ _ lo hi
  | .int x, lo, hi, cs, h => by
    have h' : cs = five 3 x noS nilS nilS := h
    rw [h', ofJ]; exact own_flat w _ _ _ lo hi
  | .text s, lo, hi, cs, h => by
    have h' : cs = five 4 0 s nilS nilS := h
    rw [h', ofJ]; exact own_flat w _ _ _ lo hi
  | .list l, lo, hi, cs, h => by
    unfold Rep at h
    obtain ⟨it, xs, rfl, h2, h3, h4⟩ := h
    obtain ⟨kids, rfl, k2, k3, k4⟩ := repL_own l lo hi _ xs h4
    have hl : l.length = kids.length := by rw [← ofL_len, ← k2, trL_len]
    rw [hl] at h2
    refine ⟨.node 5 0 noS nilS it [] kids, rfl, by unfold HT.tr ofJ; rw [k2], ownF_node (World.ownsRow_nil _ _ _ _) (ownsRow_lo h2 (Nat.zero_le _)) k3 (.inl rfl) (fun g hg => ⟨by simp [nilS, Value.ownBlock], fun e => (k4 g hg).2.2 (by simp [e])⟩), fun b hb => ?_⟩
    rw [bksT_node] at hb
    rcases List.mem_append.1 hb with hb | hb
    · rcases List.mem_append.1 hb with hb | hb
      · simp [nilS, Value.ownBlock] at hb
      · have e : it.ownBlock = some b := by simpa using hb
        exact ⟨(ownsRow_ge h2 e).1, h3 b e⟩
    · exact ⟨(k4 b hb).1, (k4 b hb).2.1⟩
  | .obj ns l, lo, hi, cs, h => by
    unfold Rep at h
    obtain ⟨nm, it, xs, rfl, h2, h3, h4, h5, h6, h7⟩ := h
    obtain ⟨kids, rfl, k2, k3, k4⟩ := repL_own l lo hi _ xs h7
    have hl : l.length = kids.length := by rw [← ofL_len, ← k2, trL_len]
    rw [hl] at h4
    refine ⟨.node 6 0 noS nm it ns kids, rfl, by unfold HT.tr ofJ; rw [k2], ownF_node (ownsRow_lo h2 (Nat.zero_le _)) (ownsRow_lo h4 (Nat.zero_le _)) k3 (rows_apart h2 h4 (by decide)) (fun g hg => ⟨fun e => (k4 g hg).2.2 (by simp [e]), fun e => (k4 g hg).2.2 (by simp [e])⟩), fun b hb => ?_⟩
    rw [bksT_node] at hb
    rcases List.mem_append.1 hb with hb | hb
    · rcases List.mem_append.1 hb with hb | hb
      · have e : nm.ownBlock = some b := by simpa using hb
        exact ⟨(ownsRow_ge h2 e).1, h3 b e⟩
      · have e : it.ownBlock = some b := by simpa using hb
        exact ⟨(ownsRow_ge h4 e).1, h5 b e⟩
    · exact ⟨(k4 b hb).1, (k4 b hb).2.1⟩
theorem repL_own {w : World} : (l : List J) → (lo hi : Nat) → (obs : List Nat) → (xs : List Value) → RepL w lo hi obs l xs → ∃ kids : List HT, flatH kids = xs ∧ trL kids = ofL l ∧ OwnFL w kids ∧ ∀ b ∈ bksL kids, lo ≤ b ∧ b < hi ∧ b ∉ obs
  | [], lo, hi, obs, xs, h => by
    have h' : xs = [] := h
    subst h'
    exact ⟨[], rfl, by unfold trL ofL; rfl, ownFL_nil _, fun b hb => by simp [bksL_nil] at hb⟩
  | j :: js, lo, hi, obs, xs, h => by
    unfold RepL at h
    obtain ⟨lo', hi', h1, h2, h3, h4, h5, h6, h7⟩ := h
    obtain ⟨t, t1, t2, t3, t4⟩ := rep_own j lo' hi' _ h6
    obtain ⟨kids, k1, k2, k3, k4⟩ := repL_own js hi' hi obs _ h7
    refine ⟨t :: kids, ?_, by unfold trL ofL; rw [t2, k2], ⟨fun u hu => ?_, ?_⟩, fun b hb => ?_⟩
    · show t.head ++ flatH kids = xs
      rw [t1, k1, List.take_append_drop]
    · rw [preL] at hu
      rcases List.mem_append.1 hu with hu | hu
      · exact t3.1 u hu
      · exact k3.1 u hu
    · rw [bksL_cons]
      refine List.nodup_append.2 ⟨t3.2, k3.2, fun a ha b hb e => ?_⟩
      have := t4 a ha
      have := k4 b hb
      omega
    · rw [bksL_cons] at hb
      rcases List.mem_append.1 hb with hb | hb
      · have := t4 b hb
        exact ⟨by omega, by omega, fun hm => h4 b hm this⟩
      · have := k4 b hb
        exact ⟨by omega, this.2.1, this.2.2⟩
end
theorem noS_size : noS.size ≤ 140737488351232 := by show (0 : Nat) ≤ _; omega
theorem qT_pos (s : ByteArray) : 0 < (qT s).length := by unfold qT; simp
theorem names_small {ns : List ByteArray} (h : NamesGood ns) : ∀ n ∈ ns, n.size ≤ 140737488351232 := fun n hn => by
  obtain ⟨i, hi, e⟩ := List.getElem_of_mem hn
  have h1 := (h i hi).1
  have : nth ns i = n := by unfold nth; rw [List.getD_eq_getElem?_getD, List.getElem?_eq_getElem hi, e]; rfl
  rw [this] at h1
  omega
mutual
theorem small_of : (j : J) → (d : Nat) → okJ d j → wfJ j → SmallT (ofJ j)
  | .null, _, _, _ => by unfold ofJ SmallT SmallL; exact ⟨noS_size, by simp, by simp, by simp, trivial⟩
  | .fls, _, _, _ => by unfold ofJ SmallT SmallL; exact ⟨noS_size, by simp, by simp, by simp, trivial⟩
  | .tru, _, _, _ => by unfold ofJ SmallT SmallL; exact ⟨noS_size, by simp, by simp, by simp, trivial⟩
  | .int _, _, _, _ => by unfold ofJ SmallT SmallL; exact ⟨noS_size, by simp, by simp, by simp, trivial⟩
  | .text s, d, h, _ => by
    have h' : d ≤ 64 ∧ s.size ≤ 65536 ∧ Lib.validD s.data.toList = true := h
    unfold ofJ SmallT SmallL
    refine ⟨by omega, by simp, by simp, by simp, trivial⟩
  | .list l, d, h, hw => by
    unfold okJ at h
    unfold wfJ at hw
    unfold ofJ SmallT
    refine ⟨noS_size, by simp, by simp, by rw [ofL_len]; omega, smallL_of l (d + 1) h.2.2 hw⟩
  | .obj ns l, d, h, hw => by
    unfold okJ at h
    unfold wfJ at hw
    unfold ofJ SmallT
    refine ⟨noS_size, by omega, names_small h.2.2.1, by rw [ofL_len]; omega, smallL_of l (d + 1) h.2.2.2 hw.2⟩
theorem smallL_of : (l : List J) → (d : Nat) → okL d l → wfL l → SmallL (ofL l)
  | [], _, _, _ => by unfold ofL SmallL; trivial
  | j :: js, d, h, hw => by
    unfold okL at h
    unfold wfL at hw
    unfold ofL SmallL
    exact ⟨small_of j d h.1 hw.1, smallL_of js d h.2 hw.2⟩
end
mutual
/-- How many values there are. -/
def cntT : Tr → Nat
  | .node _ _ _ _ its => 1 + cntL its
def cntL : List Tr → Nat
  | [] => 0
  | t :: ts => cntT t + cntL ts
end
mutual
theorem preT_cnt : (h : HT) → (preT h).length = cntT h.tr
  | .node k x s nm it ns kids => by
    rw [preT]
    unfold HT.tr cntT
    rw [List.length_cons, preL_cnt kids]
    omega
theorem preL_cnt : (l : List HT) → (preL l).length = cntL (trL l)
  | [] => by unfold trL cntL; simp [preL]
  | t :: ts => by
    rw [preL]
    unfold trL cntL
    rw [List.length_append, preT_cnt t, preL_cnt ts]
end
theorem itoa_pos (x : Int) : 0 < (Lib.itoa x).length := by
  unfold Lib.itoa
  split
  · simp
  · rcases Nat.lt_or_ge x.toNat 10 with h | h
    · rw [dec_small h]; simp
    · rw [dec_big (by omega)]; simp
mutual
theorem cnt_of : (j : J) → cntT (ofJ j) ≤ lenJ j
  | .null => by unfold ofJ cntT cntL lenJ; omega
  | .fls => by unfold ofJ cntT cntL lenJ; omega
  | .tru => by unfold ofJ cntT cntL lenJ; omega
  | .int x => by unfold ofJ cntT cntL lenJ; have := itoa_pos x; omega
  | .text s => by unfold ofJ cntT cntL lenJ; have := qT_pos s; omega
  | .list l => by unfold ofJ cntT lenJ; have := cntL_of l; omega
  | .obj ns l => by unfold ofJ cntT lenJ; have := cntL_of l; omega
theorem cntL_of : (l : List J) → cntL (ofL l) ≤ lenL l
  | [] => by unfold ofL cntL lenL; omega
  | j :: js => by unfold ofL cntL lenL; have := cnt_of j; have := cntL_of js; omega
end
/-- How great what is read may be. -/
theorem parsed_small (T : ByteArray) : SmallT (outT (parsed T)) ∧ cntT (outT (parsed T)) ≤ 1310720 := by
  have flat : SmallT (.node 0 0 noS [] []) ∧ cntT (.node 0 0 noS [] []) ≤ 1310720 := by
    constructor
    · unfold SmallT SmallL; exact ⟨noS_size, by simp, by simp, by simp, trivial⟩
    · unfold cntT cntL; omega
  unfold parsed
  by_cases hT : T.size ≤ 65536
  · rw [if_pos hT]
    cases hr : wholeR T (textR T) with
    | ok j n =>
      obtain ⟨h1, -, h3, h4⟩ := whole_good hT hr
      have := cnt_of j
      exact ⟨small_of j 0 h1 h3, by show cntT (ofJ j) ≤ _; omega⟩
    | bad er p => exact flat
  · rw [if_neg hT]
    exact flat
/-- What jsonval.Parse answers: the value, in lists of its own that it made. -/
def OwnP (w : World) (R : Res J) (e : Ending) (w' : World) : Prop := ∃ (k x : Int) (s : ByteArray) (an : Option Addr) (ln cn : Nat) (ai : Option Addr) (li ci : Nat), e = .returned (.tuple #[.agg #[.int .i64 k, .int .i64 x, .string s, .slice an ln cn, .slice ai li ci], .int .i64 (outE R : Int), .int .i64 (outP R : Int)]) ∧ OwnAt w.heap.size w' (outT R) (five k x s (.slice an ln cn) (.slice ai li ci))
theorem own_none (w w' : World) : OwnAt w.heap.size w' (.node 0 0 noS [] []) (five 0 0 noS (.slice none 0 0) (.slice none 0 0)) := by
  obtain ⟨h, h1, h2, h3, h4⟩ := own_flat w' 0 0 noS w.heap.size w'.heap.size
  exact ⟨h, h1, h2, h3, fun b hb => (h4 b hb).1⟩
theorem cparse_own (T : ByteArray) (w : World) (hE : Env w) (h8 : 8 ≤ w.heap.size) : Calls Tryz.prog 14 #[.string T] w fun e w' => OwnP w (parsed T) e w' ∧ Below w.heap.size w w' := by
  unfold parsed
  by_cases hT : T.size ≤ 65536
  · rw [if_pos hT]
    refine (parse_any T (textR T) (quoted_g T hT) w hE h8 hT).mono ?_
    rintro e w' ⟨hp, hb⟩
    refine ⟨?_, hb⟩
    cases hr : wholeR T (textR T) with
    | ok j n =>
      rw [hr] at hp
      obtain ⟨kd, x, s, a1, l1, c1, a2, l2, c2, he, hrep⟩ := hp
      obtain ⟨h, h1, h2, h3, h4⟩ := rep_own j _ _ _ hrep
      exact ⟨kd, x, s, a1, l1, c1, a2, l2, c2, he, h, h1, h2, h3, fun b hb => (h4 b hb).1⟩
    | bad er p =>
      rw [hr] at hp
      have hp' : e = _ := hp
      exact ⟨0, 0, noS, none, 0, 0, none, 0, 0, hp', own_none w w'⟩
  · rw [if_neg hT]
    refine (parse_long T w (by omega)).mono ?_
    rintro e w' ⟨he, hb⟩
    exact ⟨⟨0, 0, noS, none, 0, 0, none, 0, 0, he, own_none w w'⟩, hb⟩
end Go.Proofs.YtnccaidlcaeeaaaGreatDoor.Tree
/-! JsonvalOwn: the walk. -/
namespace Go.Proofs.YtnccaidlcaeeaaaGreatDoor.Tree
open Go Go.RowKit

/-- A value with lists of its own, in a box; its lists lie between lo and the box. -/
structure Bx (lo g : Nat) (h : HT) (t : Tr) (k x : Int) (s : ByteArray) (an : Option Addr) (ln cn : Nat) (ai : Option Addr) (li ci : Nat) (wr : World) : Prop where
  head : h.head = five k x s (.slice an ln cn) (.slice ai li ci)
  tr : h.tr = t
  own : OwnF wr h
  rng : ∀ b ∈ bksT h, lo ≤ b ∧ b < g
  le : lo ≤ g
  box : wr.heap[g]? = some (.cells #[.int .i64 k, .int .i64 x, .string s, .slice an ln cn, .slice ai li ci] 25 (0, 0))
theorem Bx.fr {lo g : Nat} {h : HT} {t : Tr} {k x : Int} {s : ByteArray} {an : Option Addr} {ln cn : Nat} {ai : Option Addr} {li ci : Nat} {wr w' : World} {S : Nat → Prop} (hx : Bx lo g h t k x s an ln cn ai li ci wr) (hf : Fr S wr w') (hS : ∀ b, S b → b < lo ∨ g < b) : Bx lo g h t k x s an ln cn ai li ci w' :=
  ⟨hx.head, hx.tr, hx.own.keep (fun b hb => hf.block b (hx.own.lt b hb) (fun e => by have := hS b e; have := hx.rng b hb; omega)), hx.rng, hx.le, (hf.block g (Array.getElem?_eq_some_iff.1 hx.box).1 (fun e => by have := hS g e; have := hx.le; omega)).trans hx.box⟩
theorem Bx.keep {lo g : Nat} {h : HT} {t : Tr} {k x : Int} {s : ByteArray} {an : Option Addr} {ln cn : Nat} {ai : Option Addr} {li ci : Nat} {wr w' : World} (hx : Bx lo g h t k x s an ln cn ai li ci wr) (hb : Below wr.heap.size wr w') : Bx lo g h t k x s an ln cn ai li ci w' := hx.fr (Fr.of_below (S := fun _ => False) hb) (fun _ e => e.elim)
theorem Bx.rep {lo g : Nat} {h : HT} {t : Tr} {k x : Int} {s : ByteArray} {an : Option Addr} {ln cn : Nat} {ai : Option Addr} {li ci : Nat} {wr : World} (hx : Bx lo g h t k x s an ln cn ai li ci wr) : VRep wr t (five k x s (.slice an ln cn) (.slice ai li ci)) := by
  have := own_rep h hx.own
  rw [hx.tr, hx.head] at this
  exact this
theorem bx_new {lo : Nat} {t : Tr} {k x : Int} {s : ByteArray} {an : Option Addr} {ln cn : Nat} {ai : Option Addr} {li ci : Nat} {Y : World} (hO : OwnAt lo Y t (five k x s (.slice an ln cn) (.slice ai li ci))) (hl : lo ≤ Y.heap.size) : ∃ h, Bx lo Y.heap.size h t k x s an ln cn ai li ci (Y.alloc (.cells #[.int .i64 k, .int .i64 x, .string s, .slice an ln cn, .slice ai li ci] 25)) := by
  obtain ⟨h, h1, h2, h3, h4⟩ := hO
  exact ⟨h, h1, h2, h3.keep (fun b hb => Below.heap_alloc _ _ _ (h3.lt b hb)), fun b hb => ⟨h4 b hb, h3.lt b hb⟩, hl, heap_alloc_new _ _⟩
mutual
theorem small_pre : (h : HT) → SmallT h.tr → ∀ u ∈ preT h, (u.names.length + 16) * 16 ≤ 140737488355328 ∧ (u.kids.length + 16) * 80 ≤ 140737488355328
  | .node k x s nm it ns kids, hS, u, hu => by
    unfold HT.tr SmallT at hS
    obtain ⟨_, s2, _, s4, s5⟩ := hS
    rw [trL_len] at s4
    rw [preT] at hu
    rcases List.mem_cons.1 hu with rfl | hu
    · show (ns.length + 16) * 16 ≤ _ ∧ (kids.length + 16) * 80 ≤ _
      omega
    · exact small_preL kids s5 u hu
theorem small_preL : (l : List HT) → SmallL (trL l) → ∀ u ∈ preL l, (u.names.length + 16) * 16 ≤ 140737488355328 ∧ (u.kids.length + 16) * 80 ≤ 140737488355328
  | [], _, u, hu => by simp [preL] at hu
  | t :: ts, hS, u, hu => by
    unfold trL SmallL at hS
    rw [preL] at hu
    rcases List.mem_append.1 hu with hu | hu
    · exact small_pre t hS.1 u hu
    · exact small_preL ts hS.2 u hu
end
set_option maxHeartbeats 16000000 in
set_option maxRecDepth 100000 in
theorem own_true (T : ByteArray) (w : World) (hE : Hid (Env w)) (hP : Hid (EnvP w)) : Calls Tryz.prog 4 #[.string T] w fun e w' => e = .returned (.bool true) ∧ Below w.heap.size w w' := by
  have h8 := hP.out.big
  have hrp := hid_e (rparse_code T w)
  have hcp := fun W (hW : Below w.heap.size w W) => hid_e (cparse_own T W (hE.out.below hW h8) (by have := hW.size; omega))
  obtain ⟨hS0, hC0⟩ := parsed_small T
  unfold PPost at hrp
  unfold OwnP at hcp
  obtain ⟨er, her⟩ : ∃ er, Hid (outE (parsed T) = er) := ⟨_, hid_e rfl⟩
  obtain ⟨pl, hpl⟩ : ∃ pl, Hid (outP (parsed T) = pl) := ⟨_, hid_e rfl⟩
  obtain ⟨t, ht⟩ : ∃ t, Hid (outT (parsed T) = t) := ⟨_, hid_e rfl⟩
  rw [her.out, hpl.out, ht.out] at hcp hrp
  rw [ht.out] at hS0 hC0
  replace hS0 := hid_e hS0
  replace hC0 := hid_e hC0
  have hnum := hid_e (num_any er)
  have heq1 : ((er : Int) == (er : Int)) = true := by simp
  go_enter Tryz.func4, Tryz.ntmps4
  go_upto_region 1 with fail
  go_wp2_with fail
  go_fit hrp.out
  clear hrp
  rintro e1 w1 ⟨⟨k1, x1, s1, an1, ln1, cn1, ai1, li1, ci1, rfl, hV1⟩, hB1⟩
  have hA1 : Below w1.heap.size w1 (w1.alloc (.cells #[.int .i64 k1, .int .i64 x1, .string s1, .slice an1 ln1 cn1, .slice ai1 li1 ci1] 25)) := (Below.refl _ w1).alloc (Nat.le_refl _) _
  have b1 := heap_alloc_new w1 (.cells #[.int .i64 k1, .int .i64 x1, .string s1, .slice an1 ln1 cn1, .slice ai1 li1 ci1] 25)
  have hB2 : Below w.heap.size w (w1.alloc (.cells #[.int .i64 k1, .int .i64 x1, .string s1, .slice an1 ln1 cn1, .slice ai1 li1 ci1] 25)) := hB1.trans (hA1.mono hB1.size)
  have hV2 := VRep.keep hA1 _ _ hV1
  replace hV2 := hid_e hV2
  have hw1 : Hid (w1.heap.size + 1 = (w1.alloc (.cells #[.int .i64 k1, .int .i64 x1, .string s1, .slice an1 ln1 cn1, .slice ai1 li1 ci1] 25)).heap.size) := (World.size_alloc _ _).symm
  have hw0 : Hid (w.heap.size ≤ w1.heap.size) := hB1.size
  clear hV1 hA1 hB1
  go_upto_region 2 with fail
  generalize w1.alloc (.cells #[.int .i64 k1, .int .i64 x1, .string s1, .slice an1 ln1 cn1, .slice ai1 li1 ci1] 25) = X1 at hB2 hV2 b1 hw1 ⊢
  generalize w1.heap.size = g1 at b1 hw1 hw0 ⊢
  go_wp2_with fail
  go_fit (hcp X1 hB2).out
  rintro e2 w2 ⟨⟨k2, x2, s2, an2, ln2, cn2, ai2, li2, ci2, rfl, hO⟩, hb⟩
  obtain ⟨hv, hX2⟩ := bx_new hO hb.size
  have hA2 : Below w2.heap.size w2 (w2.alloc (.cells #[.int .i64 k2, .int .i64 x2, .string s2, .slice an2 ln2 cn2, .slice ai2 li2 ci2] 25)) := (Below.refl _ w2).alloc (Nat.le_refl _) _
  have hK2 : Below X1.heap.size X1 (w2.alloc (.cells #[.int .i64 k2, .int .i64 x2, .string s2, .slice an2 ln2 cn2, .slice ai2 li2 ci2] 25)) := hb.trans (hA2.mono hb.size)
  have hB3 : Below w.heap.size w (w2.alloc (.cells #[.int .i64 k2, .int .i64 x2, .string s2, .slice an2 ln2 cn2, .slice ai2 li2 ci2] 25)) := hB2.trans (hK2.mono hB2.size)
  replace hX2 := hid_e hX2
  clear hO hb hA2 hB2
  go_upto_region 3 with fail
  generalize w2.alloc (.cells #[.int .i64 k2, .int .i64 x2, .string s2, .slice an2 ln2 cn2, .slice ai2 li2 ci2] 25) = X2 at hX2 hB3 hK2 ⊢
  generalize w2.heap.size = g2 at hX2 ⊢
  go_wp2_with fail
  go_fit (hcp X2 hB3).out
  rintro e3 w3 ⟨⟨k3, x3, s3, an3, ln3, cn3, ai3, li3, ci3, rfl, hO⟩, hb⟩
  have hg2 : Hid (g2 < X2.heap.size) := (Array.getElem?_eq_some_iff.1 hX2.out.box).1
  obtain ⟨hq, hX3⟩ := bx_new hO hb.size
  have hA3 : Below w3.heap.size w3 (w3.alloc (.cells #[.int .i64 k3, .int .i64 x3, .string s3, .slice an3 ln3 cn3, .slice ai3 li3 ci3] 25)) := (Below.refl _ w3).alloc (Nat.le_refl _) _
  have hK3 : Below X2.heap.size X2 (w3.alloc (.cells #[.int .i64 k3, .int .i64 x3, .string s3, .slice an3 ln3 cn3, .slice ai3 li3 ci3] 25)) := hb.trans (hA3.mono hb.size)
  have hB4 : Below w.heap.size w (w3.alloc (.cells #[.int .i64 k3, .int .i64 x3, .string s3, .slice an3 ln3 cn3, .slice ai3 li3 ci3] 25)) := hB3.trans (hK3.mono hB3.size)
  have hJ3 := hK2.trans (hK3.mono hK2.size)
  have hlo : Hid (w.heap.size ≤ X2.heap.size) := hB3.size
  replace hX2 := hid_e (hX2.out.keep hK3)
  replace hX3 := hid_e hX3
  clear hO hb hA3 hK3 hB3 hcp hK2
  go_upto_region 4 with fail
  generalize w3.alloc (.cells #[.int .i64 k3, .int .i64 x3, .string s3, .slice an3 ln3 cn3, .slice ai3 li3 ci3] 25) = X3 at hX3 hX2 hB4 hJ3 ⊢
  generalize w3.heap.size = g3 at hX3 ⊢
  have hl := hid_e (live_true X3 (hE.out.below hB4 h8) (hP.out.below hB4 h8))
  go_wp2_with fail
  refine (hnum.out X3).mono ?_
  rintro e4 Z ⟨rfl, hz⟩
  replace hz := hz.symm
  subst hz
  go_wp2_with fail
  go_fit hl.out
  rintro e5 X4 ⟨rfl, hb⟩
  have hJ4 := hJ3.trans (hb.mono hJ3.size)
  replace hX2 := hid_e (hX2.out.keep hb)
  replace hX3 := hid_e (hX3.out.keep hb)
  have hB5 := hB4.trans (hb.mono hB4.size)
  clear hb hl hB4 hJ3
  go_upto_region 6 with fail
  obtain ⟨y0, y1, y2, y3, y4, -⟩ := row_cells hX2.out.box
  have hsp := hid_e (spoil_any hv _ hX2.out.own (by rw [hX2.out.tr]; exact hS0.out))
  rw [hX2.out.head] at hsp
  go_wp2_with fail
  clear y0 y1 y2 y3 y4
  refine hsp.out.mono ?_
  rintro e6 X5 ⟨rfl, hf⟩
  have hX4 := hid_e (hX3.out.fr hf (fun b hb => .inl (by have := hX2.out.rng b hb; have := hg2.out; omega)))
  have hB6 : Below w.heap.size w X5 := ⟨hf.os.trans hB5.os, hf.tape.trans hB5.tape, hf.output.trans hB5.output, Nat.le_trans hB5.size hf.size, fun j hj => (hf.block j (Nat.lt_of_lt_of_le hj hB5.size) (fun e => by have := hX2.out.rng j e; have := hw0.out; have := hw1.out; omega)).trans (hB5.block j hj)⟩
  have hJ5 : Below X1.heap.size X1 X5 := ⟨hf.os.trans hJ4.os, hf.tape.trans hJ4.tape, hf.output.trans hJ4.output, Nat.le_trans hJ4.size hf.size, fun j hj => (hf.block j (Nat.lt_of_lt_of_le hj hJ4.size) (fun e => by have := hX2.out.rng j e; omega)).trans (hJ4.block j hj)⟩
  have b2 := (hJ5.block _ (Array.getElem?_eq_some_iff.1 b1).1).trans b1
  have hV3 := hid_e (VRep.keep hJ5 _ _ hV2.out)
  clear hf hsp hX2 hX3 hB5 b1 hJ4 hJ5
  go_upto_region 7 with fail
  obtain ⟨y0, y1, y2, y3, y4, -⟩ := row_cells hX4.out.box
  obtain ⟨z0, z1, z2, z3, z4, -⟩ := row_cells b2
  have hq1 := hid_e (equal_same t _ _ X5 hX4.out.rep hV3.out)
  go_wp2_with fail
  clear y0 y1 y2 y3 y4 z0 z1 z2 z3 z4
  go_fit hq1.out
  rintro e7 X6 ⟨rfl, hb⟩
  replace hX4 := hid_e (hX4.out.keep hb)
  have hB7 := hB6.trans (hb.mono hB6.size)
  clear hb hq1 hB6 b2 hV3 hV2
  go_upto_region 9 with fail
  obtain ⟨y0, y1, y2, y3, y4, -⟩ := row_cells hX4.out.box
  have hap := hid_e (apart_true k3 x3 s3 an3 ln3 cn3 ai3 li3 ci3 hq X6 (hid_e hX4.out.head) (hid_e hX4.out.own) (hid_e (small_pre hq (by rw [hX4.out.tr]; exact hS0.out))) (hid_e (by rw [preT_cnt, hX4.out.tr]; have := hC0.out; omega)))
  go_wp2_with fail
  clear y0 y1 y2 y3 y4
  refine hap.out.mono ?_
  rintro e8 X7 ⟨rfl, hf⟩
  have hB8 : Below w.heap.size w X7 := ⟨hf.os.trans hB7.os, hf.tape.trans hB7.tape, hf.output.trans hB7.output, Nat.le_trans hB7.size hf.size, fun j hj => (hf.block j (Nat.lt_of_lt_of_le hj hB7.size) (fun e => by have := hX4.out.rng j e; have := hg2.out; have := hlo.out; have := hw0.out; have := hw1.out; omega)).trans (hB7.block j hj)⟩
  go_wp2_with fail
  go_ret
  exact ⟨rfl, hB8⟩
  end Go.Proofs.YtnccaidlcaeeaaaGreatDoor.Tree
