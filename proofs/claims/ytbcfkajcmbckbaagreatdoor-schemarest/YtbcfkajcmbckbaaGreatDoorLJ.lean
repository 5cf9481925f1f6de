import Derived.Test.YtbcfkajcmbckbaaGreatDoorLI
import Derived.Test.YtbcfkajcmbckbaaGreatDoorKN
import Derived.Test.YtbcfkajcmbckbaaGreatDoorZB3
/-! schema: the schemas that the laws make, and what they keep; plain. -/
namespace Go.Proofs.YtbcfkajcmbckbaaGreatDoor
open Go Go.RowKit

theorem alone_up {d : Nat} {k x : Int} {s : ByteArray} {n m : Nat} (h : aloneT ((d + 1 : Nat) : Int) k x s n m = 0) : aloneT (d : Int) k x s n m = 0 := by
  unfold aloneT at h ⊢
  by_cases hd : deepB k < ((d + 1 : Nat) : Int)
  · rw [if_pos hd] at h; cases h
  · rw [if_neg hd] at h
    rw [if_neg (by omega)]
    exact h
mutual
theorem check_up : (d : Nat) → (t : Tr) → checkT (d + 1) t = 0 → checkT d t = 0
  | d, .node k x s ns its, h => by
    rw [checkT] at h ⊢
    by_cases ha : aloneT ((d + 1 : Nat) : Int) k x s ns.length its.length = 0
    · rw [if_pos ha] at h
      rw [if_pos (alone_up ha)]
      by_cases hk : k = 6
      · rw [if_pos hk] at h ⊢
        exact members_up (d + 1) [] ns its h
      · rw [if_neg hk] at h ⊢
        exact items_up (d + 1) its h
    · rw [if_neg ha] at h
      exact absurd h ha
theorem items_up : (d : Nat) → (its : List Tr) → itemsT (d + 1) its = 0 → itemsT d its = 0
  | d, [], h => by rw [itemsT]
  | d, t :: ts, h => by
    rw [itemsT] at h ⊢
    by_cases hc : checkT (d + 1) t = 0
    · rw [if_pos hc] at h
      rw [if_pos (check_up d t hc)]
      exact items_up d ts h
    · rw [if_neg hc] at h
      exact absurd h hc
theorem members_up : (d : Nat) → (had ns : List ByteArray) → (its : List Tr) → membersT (d + 1) had ns its = 0 → membersT d had ns its = 0
  | d, had, ns, [], h => by rw [membersT]
  | d, had, [], t :: ts, h => by rw [membersT]
  | d, had, n :: ns, t :: ts, h => by
    rw [membersT] at h ⊢
    split at h
    · cases h
    · rename_i hv
      rw [if_neg hv]
      split at h
      · cases h
      · rename_i hn
        rw [if_neg hn]
        by_cases hc : checkT (d + 1) t = 0
        · rw [if_pos hc] at h
          rw [if_pos (check_up d t hc)]
          exact members_up d (had ++ [n]) ns ts h
        · rw [if_neg hc] at h
          exact absurd h hc
end
theorem hasName_iff {had : List ByteArray} {s : ByteArray} : hasName had s = true ↔ s ∈ had := by
  unfold hasName
  rw [List.any_eq_true]
  constructor
  · rintro ⟨a, h1, h2⟩
    rw [← ByteArray.ext (of_decide_eq_true h2)]; exact h1
  · exact fun h => ⟨s, h, decide_eq_true rfl⟩
theorem membersT_zip (d : Nat) : (had ns : List ByteArray) → (its : List Tr) → ns.length = its.length → (membersT d had ns its = 0 ↔ (∀ p ∈ ns.zip its, Lib.validD p.1.data.toList = true ∧ checkT d p.2 = 0) ∧ ns.Nodup ∧ ∀ n ∈ ns, n ∉ had)
  | had, [], [], _ => by simp [membersT]
  | had, [], _ :: _, h => by simp at h
  | had, _ :: _, [], h => by simp at h
  | had, n :: ns, t :: ts, h => by
    have ih := membersT_zip d (had ++ [n]) ns ts (by simpa using h)
    rw [membersT]
    by_cases hv : Lib.validD n.data.toList = true
    · rw [if_neg (by rw [hv]; decide)]
      by_cases hn : hasName had n = true
      · rw [if_pos hn]
        refine ⟨fun h => (by cases h), fun h => absurd (hasName_iff.1 hn) (h.2.2 n (by simp))⟩
      · rw [if_neg hn]
        have hn' : n ∉ had := fun e => hn (hasName_iff.2 e)
        by_cases hc : checkT d t = 0
        · rw [if_pos hc, ih]
          constructor
          · rintro ⟨h1, h2, h3⟩
            refine ⟨fun p hp => ?_, List.nodup_cons.2 ⟨fun e => h3 n e (by simp), h2⟩, fun m hm => ?_⟩
            · rcases List.mem_cons.1 (by simpa using hp) with rfl | hp
              · exact ⟨hv, hc⟩
              · exact h1 p hp
            · rcases List.mem_cons.1 hm with rfl | hm
              · exact hn'
              · exact fun e => h3 m hm (by simp [e])
          · rintro ⟨h1, h2, h3⟩
            refine ⟨fun p hp => h1 p (by simp [hp]), (List.nodup_cons.1 h2).2, fun m hm e => ?_⟩
            rcases List.mem_append.1 e with e | e
            · exact h3 m (by simp [hm]) e
            · have : m = n := by simpa using e
              subst this
              exact (List.nodup_cons.1 h2).1 hm
        · rw [if_neg hc]
          exact ⟨fun h => absurd h hc, fun h => absurd (h.1 (n, t) (by simp)).2 hc⟩
    · rw [if_pos (by simpa using hv)]
      exact ⟨fun h => (by cases h), fun h => absurd (h.1 (n, t) (by simp)).1 hv⟩
theorem alone6 {d : Nat} (hd : d ≤ 63) (n : Nat) : aloneT (d : Int) 6 0 ⟨#[]⟩ n n = 0 := by
  unfold aloneT
  rw [if_neg (show ¬ deepB 6 < (d : Int) by unfold deepB; rw [if_pos (by decide)]; omega), if_neg (by decide), if_neg (by simp [keepsB]), if_neg (by decide), if_neg (by simp)]
theorem alone5 {d : Nat} (hd : d ≤ 63) (n : Nat) : aloneT (d : Int) 5 0 ⟨#[]⟩ 0 n = 0 := by
  unfold aloneT
  rw [if_neg (show ¬ deepB 5 < (d : Int) by unfold deepB; rw [if_pos (by decide)]; omega), if_neg (by decide), if_neg (by simp [keepsB]), if_neg (by decide), if_neg (by simp)]
theorem check6 {d : Nat} (hd : d ≤ 63) (ns : List ByteArray) (its : List Tr) (hl : ns.length = its.length) : checkT d (.node 6 0 ⟨#[]⟩ ns its) = 0 ↔ membersT (d + 1) [] ns its = 0 := by
  rw [checkT, hl, if_pos (alone6 hd _), if_pos rfl]
theorem check5 {d : Nat} (hd : d ≤ 63) (its : List Tr) : checkT d (.node 5 0 ⟨#[]⟩ [] its) = 0 ↔ itemsT (d + 1) its = 0 := by
  rw [checkT, if_pos (show aloneT (d : Int) 5 0 ⟨#[]⟩ (List.length []) its.length = 0 from alone5 hd _), if_neg (by decide)]
/-- An object that is good has its names once. -/
theorem check6_names {d : Nat} {x : Int} {s : ByteArray} {ns : List ByteArray} {its : List Tr} (h : checkT d (.node 6 x s ns its) = 0) : ns.length = its.length ∧ membersT (d + 1) [] ns its = 0 ∧ ns.Nodup := by
  have hn := names_of d _ h
  unfold NamesT at hn
  have hl := hn.1 rfl
  rw [checkT] at h
  by_cases ha : aloneT (d : Int) 6 x s ns.length its.length = 0
  · rw [if_pos ha, if_pos rfl] at h
    exact ⟨hl, h, ((membersT_zip _ _ _ _ hl).1 h).2.1⟩
  · rw [if_neg ha] at h
    exact absurd h ha
theorem parse_iff (t : Tr) : parseZ t = 0 ↔ checkT 0 t = 0 ∧ okS 0 t ∧ cS t ≤ 128 := by
  unfold parseZ
  obtain ⟨h1, -⟩ := schema_fits 0 0 t (by decide)
  by_cases hc : checkT 0 t = 0
  · rw [if_pos hc, h1, Nat.zero_add]
    exact ⟨fun h => ⟨hc, h⟩, fun h => h.2⟩
  · rw [if_neg hc]
    exact ⟨fun h => absurd h hc, fun h => absurd h.1 hc⟩

/-! The schemas of the laws. -/
def revT (a : Tr) : Tr := .node 6 0 ⟨#[]⟩ a.names.reverse a.items.reverse
def notT (a : Tr) : Tr := .node 6 0 ⟨#[]⟩ [wNot] [a]
def listT (l : List Tr) : Tr := .node 5 0 ⟨#[]⟩ [] l
def allT (a b : Tr) : Tr := .node 6 0 ⟨#[]⟩ [wAllOf] [listT [a, b]]
def anyT (a b : Tr) : Tr := .node 6 0 ⟨#[]⟩ [wAnyOf] [listT [a, b]]
theorem word_not : wordNo wNot = 15 := by decide +kernel
theorem word_all : wordNo wAllOf = 14 := by decide +kernel
theorem word_any : wordNo wAnyOf = 13 := by decide +kernel
theorem word_prop : wordNo wProperties = 3 := by decide +kernel
theorem word_add : wordNo wAdditional = 4 := by decide +kernel
theorem keepsAll_cons (t : Tr) (ts : List Tr) (v : Tr) : keepsAll (t :: ts) v = (keepsT t v && keepsAll ts v) := by
  obtain ⟨k, x, s, ns, its⟩ := t
  rw [keepsAll]
  rfl
theorem keepsAny_cons (t : Tr) (ts : List Tr) (v : Tr) : keepsAny (t :: ts) v = (keepsT t v || keepsAny ts v) := by
  obtain ⟨k, x, s, ns, its⟩ := t
  rw [keepsAny]
  rfl
theorem keeps_notT (a v : Tr) : keepsT (notT a) v = !keepsT a v := by
  obtain ⟨k, x, s, ns, its⟩ := a
  unfold keepsT notT
  simp only [Tr.names, Tr.items]
  rw [keepsL, keepsL, List.headD_cons, word_not, keepsR]
  simp
theorem keeps_allT (a b v : Tr) : keepsT (allT a b) v = (keepsT a v && keepsT b v) := by
  unfold allT listT
  rw [keepsT]
  simp only [Tr.names, Tr.items]
  rw [keepsL, keepsL, List.headD_cons, word_all, keepsR]
  simp [keepsAll_cons, keepsAll]
theorem keeps_anyT (a b v : Tr) : keepsT (anyT a b) v = (keepsT a v || keepsT b v) := by
  unfold anyT listT
  rw [keepsT]
  simp only [Tr.names, Tr.items]
  rw [keepsL, keepsL, List.headD_cons, word_any, keepsR]
  simp [keepsAny_cons, keepsAny]
theorem nodup_rev {l : List ByteArray} (h : l.Nodup) : l.reverse.Nodup := (List.reverse_perm l).nodup_iff.2 h
theorem hasO_node (k x : Int) (s : ByteArray) (ns : List ByteArray) (its : List Tr) (w : ByteArray) : hasO (.node k x s ns its) w = if k = 6 ∧ 0 ≤ Lib.idxOfS ns w then its[(Lib.idxOfS ns w).toNat]? else none := rfl
theorem idx_nodup {ns : List ByteArray} {q : Nat} {s : ByteArray} (hn : ns.Nodup) (h : ns[q]? = some s) : Lib.idxOfS ns s = q := by
  have hq := (List.getElem?_eq_some_iff.1 h).1
  have := Lib.idxOfS_hit ns ns.length q s hq (Nat.le_refl _) (by rw [List.getD_eq_getElem?_getD, h]; rfl) (fun j hj e => by
    have h2 : ns[j]? = some s := by
      rw [List.getElem?_eq_getElem (by omega)]
      rw [List.getD_eq_getElem?_getD, List.getElem?_eq_getElem (by omega)] at e
      exact congrArg some e
    have := (List.getElem?_inj (by omega) hn).1 (h2.trans h.symm)
    omega)
  rwa [List.take_length] at this
theorem beside_rev (a : Tr) (h6 : a.kind = 6) (hl : a.names.length = a.items.length) (hn : a.names.Nodup) : besideN (revT a) = besideN a := by
  obtain ⟨k, x, s, ns, its⟩ := a
  simp only [Tr.kind, Tr.names, Tr.items] at h6 hl hn
  subst h6
  unfold besideN revT
  simp only [Tr.names, Tr.items]
  congr 2
  rw [hasO_node, hasO_node]
  by_cases hm : wProperties ∈ ns
  · obtain ⟨q, hq, he⟩ := List.getElem_of_mem hm
    have h1 : ns[q]? = some wProperties := by rw [List.getElem?_eq_getElem hq, he]
    have h2 : ns.reverse[ns.length - 1 - q]? = some wProperties := by
      rw [List.getElem?_reverse (by omega), show ns.length - 1 - (ns.length - 1 - q) = q by omega]; exact h1
    rw [idx_nodup hn h1, idx_nodup (nodup_rev hn) h2, if_pos ⟨rfl, by omega⟩, if_pos ⟨rfl, by omega⟩]
    rw [Int.toNat_natCast, Int.toNat_natCast, List.getElem?_reverse (by omega), show its.length - 1 - (ns.length - 1 - q) = q by omega]
  · rw [if_neg (show ¬ ((6 : Int) = 6 ∧ 0 ≤ Lib.idxOfS ns.reverse wProperties) from fun h => hm (List.mem_reverse.1 ((Lib.idxOfS_nonneg_iff _ wProperties).1 h.2))), if_neg (show ¬ ((6 : Int) = 6 ∧ 0 ≤ Lib.idxOfS ns wProperties) from fun h => hm ((Lib.idxOfS_nonneg_iff _ wProperties).1 h.2))]
theorem keeps_revT (a v : Tr) (h : parseZ a = 0) : keepsT (revT a) v = keepsT a v := by
  obtain ⟨hc, ⟨h6, -⟩, -⟩ := (parse_iff a).1 h
  obtain ⟨k, x, s, ns, its⟩ := a
  obtain rfl : k = 6 := h6
  obtain ⟨hl, -, hn⟩ := check6_names hc
  have hb := beside_rev (.node 6 x s ns its) rfl hl hn
  unfold keepsT
  rw [hb]
  unfold revT
  simp only [Tr.names, Tr.items]
  rw [keepsL_zip _ _ _ _ (by simp [hl]), keepsL_zip _ _ _ _ hl, zip_rev _ _ hl, List.all_reverse]
theorem parse_revT (a : Tr) (h : parseZ a = 0) : parseZ (revT a) = 0 := by
  obtain ⟨hc, ⟨h6, h8, hm⟩, hs⟩ := (parse_iff a).1 h
  obtain ⟨k, x, s, ns, its⟩ := a
  obtain rfl : k = 6 := h6
  obtain ⟨hl, hmem, hn⟩ := check6_names hc
  have hlr : ns.reverse.length = its.reverse.length := by simp [hl]
  unfold cS at hs
  simp only [Tr.names, Tr.items] at hm hs
  refine (parse_iff _).2 ⟨?_, ⟨rfl, by decide, ?_⟩, ?_⟩
  · unfold revT
    simp only [Tr.names, Tr.items]
    rw [check6 (by decide) _ _ hlr, membersT_zip _ _ _ _ hlr, zip_rev _ _ hl]
    obtain ⟨g1, -, -⟩ := (membersT_zip _ _ _ _ hl).1 hmem
    exact ⟨fun p hp => g1 p (List.mem_reverse.1 hp), nodup_rev hn, fun _ _ => by simp⟩
  · unfold revT
    simp only [Tr.names, Tr.items]
    rw [okM_zip _ _ _ hlr, zip_rev _ _ hl]
    exact fun p hp => (okM_zip _ _ _ hl).1 hm p (List.mem_reverse.1 hp)
  · unfold cS revT
    simp only [Tr.names, Tr.items]
    rw [cM_zip _ _ hlr, zip_rev _ _ hl, List.map_reverse, List.sum_reverse, ← cM_zip _ _ hl]
    exact hs
theorem check_allT (a b : Tr) : checkT 0 (allT a b) = 0 ↔ checkT 2 a = 0 ∧ checkT 2 b = 0 := by
  unfold allT listT
  rw [check6 (by decide) _ _ rfl, membersT_zip _ _ _ _ rfl]
  simp only [List.zip_cons_cons, List.zip_nil_right, List.mem_singleton, forall_eq]
  rw [check5 (by decide), itemsT, itemsT, itemsT]
  constructor
  · rintro ⟨⟨-, h⟩, -⟩
    by_cases ha : checkT 2 a = 0
    · rw [if_pos ha] at h
      by_cases hb : checkT 2 b = 0
      · exact ⟨ha, hb⟩
      · rw [if_neg hb] at h; exact absurd h hb
    · rw [if_neg ha] at h; exact absurd h ha
  · rintro ⟨ha, hb⟩
    exact ⟨⟨by decide +kernel, by rw [if_pos ha, if_pos hb]⟩, by simp, by simp⟩
theorem check_anyT (a b : Tr) : checkT 2 a = 0 ∧ checkT 2 b = 0 → checkT 0 (anyT a b) = 0 := by
  unfold anyT listT
  rw [check6 (by decide) _ _ rfl, membersT_zip _ _ _ _ rfl]
  simp only [List.zip_cons_cons, List.zip_nil_right, List.mem_singleton, forall_eq]
  rw [check5 (by decide), itemsT, itemsT, itemsT]
  rintro ⟨ha, hb⟩
  exact ⟨⟨by decide +kernel, by rw [if_pos ha, if_pos hb]⟩, by simp, by simp⟩
theorem ok_allT (a b : Tr) : okS 0 (allT a b) ↔ okS 1 a ∧ okS 1 b := by
  obtain ⟨k, x, s, ns, its⟩ := a
  obtain ⟨k', x', s', ns', its'⟩ := b
  unfold okS allT listT
  simp only [Tr.names, Tr.items, Tr.kind]
  rw [okM, okM, List.headD_cons, word_all, okR, okL, okL, okL]
  simp [nestJ]
theorem ok_anyT (a b : Tr) : okS 0 (anyT a b) ↔ okS 1 a ∧ okS 1 b := by
  obtain ⟨k, x, s, ns, its⟩ := a
  obtain ⟨k', x', s', ns', its'⟩ := b
  unfold okS anyT listT
  simp only [Tr.names, Tr.items, Tr.kind]
  rw [okM, okM, List.headD_cons, word_any, okR, okL, okL, okL]
  simp [nestJ]
theorem ok_notT (a : Tr) : okS 0 (notT a) ↔ okS 1 a := by
  obtain ⟨k, x, s, ns, its⟩ := a
  unfold okS notT
  simp only [Tr.names, Tr.items, Tr.kind]
  rw [okM, okM, List.headD_cons, word_not, okR]
  simp [nestJ]
theorem c_allT (a b : Tr) : cS (allT a b) = 1 + (cS a + cS b) := by
  obtain ⟨k, x, s, ns, its⟩ := a
  obtain ⟨k', x', s', ns', its'⟩ := b
  unfold cS allT listT
  simp only [Tr.names, Tr.items]
  rw [cM, cM, List.headD_cons, word_all, cR, cL, cL, cL]
  simp
theorem c_anyT (a b : Tr) : cS (anyT a b) = 1 + (cS a + cS b) := by
  obtain ⟨k, x, s, ns, its⟩ := a
  obtain ⟨k', x', s', ns', its'⟩ := b
  unfold cS anyT listT
  simp only [Tr.names, Tr.items]
  rw [cM, cM, List.headD_cons, word_any, cR, cL, cL, cL]
  simp
theorem c_notT (a : Tr) : cS (notT a) = 1 + cS a := by
  obtain ⟨k, x, s, ns, its⟩ := a
  unfold cS notT
  simp only [Tr.names, Tr.items]
  rw [cM, cM, List.headD_cons, word_not, cR]
  simp
theorem parse_deep (a b : Tr) (h : parseZ (allT a b) = 0) : parseZ (notT a) = 0 ∧ parseZ (anyT a b) = 0 := by
  obtain ⟨hc, ho, hn⟩ := (parse_iff _).1 h
  rw [ok_allT] at ho
  rw [c_allT] at hn
  have hab := (check_allT a b).1 hc
  refine ⟨(parse_iff _).2 ⟨?_, (ok_notT a).2 ho.1, by rw [c_notT]; omega⟩, (parse_iff _).2 ⟨check_anyT a b hab, (ok_anyT a b).2 ho, by rw [c_anyT]; omega⟩⟩
  unfold notT
  rw [check6 (by decide) _ _ rfl, membersT_zip _ _ _ _ rfl]
  simp only [List.zip_cons_cons, List.zip_nil_right, List.mem_singleton, forall_eq]
  exact ⟨⟨by decide +kernel, check_up 1 a hab.1⟩, by simp, by simp⟩
/-! Members that no rule names. -/
def propT (p : Tr) : Tr := .node 6 0 ⟨#[]⟩ [wProperties] [p]
def onlyT (p : Tr) : Tr := .node 6 0 ⟨#[]⟩ [wProperties, wAdditional] [p, .node 1 0 ⟨#[]⟩ [] []]
def snocT (v : Tr) (s : ByteArray) (x : Tr) : Tr := .node 6 0 ⟨#[]⟩ (v.names ++ [s]) (v.items ++ [x])
theorem range_all {n : Nat} {f g : Nat → Bool} (h : ∀ i, i < n → f i = g i) : (List.range n).all f = (List.range n).all g := by
  rw [Bool.eq_iff_iff, List.all_eq_true, List.all_eq_true]
  refine ⟨fun H i hi => ?_, fun H i hi => ?_⟩
  · rw [← h i (List.mem_range.1 hi)]; exact H i hi
  · rw [h i (List.mem_range.1 hi)]; exact H i hi
theorem noOf_out : (l : List ByteArray) → (s : ByteArray) → s ∉ l → noOf l s = none := by
  intro l s h
  have := noOf_some l s
  have hm : memB l s = false := by
    unfold memB
    rw [List.any_eq_false]
    intro a ha e
    exact h (of_decide_eq_true e ▸ ha)
  rw [hm] at this
  cases hn : noOf l s with
  | none => rfl
  | some q => rw [hn] at this; cases this
theorem mbrs_snoc (v : Tr) (s : ByteArray) (x : Tr) (hl : v.names.length = v.items.length) : mbrsT (snocT v s x) = mbrsT v ++ [s] := by
  show (v.names ++ [s]).take (v.items ++ [x]).length = v.names.take v.items.length ++ [s]
  rw [List.take_of_length_le (by simp [hl]), List.take_of_length_le (by omega)]
theorem keeps_snoc (p v : Tr) (s : ByteArray) (x : Tr) (h6 : v.kind = 6) (hl : v.names.length = v.items.length) (hs : s ∉ p.names) : keepsT (propT p) (snocT v s x) = keepsT (propT p) v := by
  unfold keepsT propT
  simp only [Tr.names, Tr.items]
  rw [keepsL, keepsL, keepsL, keepsL, List.headD_cons, word_prop, keeps_pos, keeps_pos, if_pos rfl, if_pos rfl, Bool.and_true, Bool.and_true]
  have hlm : (mbrsT v).length = v.items.length := by unfold mbrsT; rw [List.length_take]; omega
  rw [mbrs_snoc v s x hl, h6, show (snocT v s x).kind = 6 from rfl]
  simp only [List.length_append, List.length_singleton, List.range_succ, List.all_append, List.all_cons, List.all_nil, Bool.and_true]
  rw [show ((mbrsT v ++ [s]).getD (mbrsT v).length noS) = s by simp, noOf_out _ _ hs]
  simp only [Bool.and_true]
  congr 1
  refine range_all fun i hi => ?_
  rw [show (mbrsT v ++ [s]).getD i noS = (mbrsT v).getD i noS by rw [List.getD_eq_getElem?_getD, List.getD_eq_getElem?_getD, List.getElem?_append_left hi],
    show (snocT v s x).items.getD i zeroT = v.items.getD i zeroT by
      show (v.items ++ [x]).getD i zeroT = _
      rw [List.getD_eq_getElem?_getD, List.getD_eq_getElem?_getD, List.getElem?_append_left (by omega)]]
theorem beside_only (p : Tr) : besideN (onlyT p) = p.names := by
  unfold besideN onlyT
  rw [hasO_node, if_pos (by decide +kernel), show (Lib.idxOfS [wProperties, wAdditional] wProperties).toNat = 0 by decide +kernel]
  rfl
theorem keeps_only (p v : Tr) (s : ByteArray) (x : Tr) (hl : v.names.length = v.items.length) (hs : s ∉ p.names) : keepsT (onlyT p) (snocT v s x) = false := by
  unfold keepsT
  rw [beside_only]
  show keepsL p.names [wProperties, wAdditional] [p, .node 1 0 ⟨#[]⟩ [] []] (snocT v s x) = false
  rw [keepsL, keepsL, keepsL, List.headD_cons, List.tail_cons, List.headD_cons, word_add, keeps_pos (j := 4), if_neg (by decide), if_neg (by decide), if_neg (by decide), if_neg (by decide), if_neg (by decide)]
  unfold plainK
  rw [if_neg (by decide), if_neg (by decide), if_neg (by decide), if_pos rfl, mbrs_snoc v s x hl, List.all_append]
  have hm : memB p.names s = false := by
    unfold memB
    rw [List.any_eq_false]
    intro a ha e
    exact hs (of_decide_eq_true e ▸ ha)
  rw [show (snocT v s x).kind = 6 from rfl, show (Tr.node 1 0 ⟨#[]⟩ [] []).kind = 1 from rfl, show ([s].all fun s => memB p.names s) = false by rw [List.all_cons, hm]; rfl, Bool.and_false]
  show (_ && (((1 : Int) == 2 || (!((6 : Int) == 6) || false)) && true)) = false
  rw [show (((1 : Int) == 2 || (!((6 : Int) == 6) || false)) && true) = false by decide, Bool.and_false]
end Go.Proofs.YtbcfkajcmbckbaaGreatDoor
