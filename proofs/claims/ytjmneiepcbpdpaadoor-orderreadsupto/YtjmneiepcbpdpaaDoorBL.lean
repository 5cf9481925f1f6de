import Derived.Test.YtjmneiepcbpdpaaDoorBJ
import Derived.Maps.OwnSet
/-! The reader's names. -/
namespace Go.Proofs.YtjmneiepcbpdpaaDoor
open Go Go.RowKit Go.Maps

theorem Fr.wide {S T : Nat → Prop} {w w' : World} (h : Fr S w w') (hS : ∀ k, S k → T k) : Fr T w w' := ⟨h.os, h.tape, h.output, h.size, fun k hk hs => h.block k hk (fun e => hs (hS k e))⟩
theorem text_no {l : List UInt8} {p : Nat} {e : Int} {q : Nat} (h : textR l p = .no e q) : e ≠ 0 := by
  unfold textR at h
  cases hq : scan (l.drop p) with
  | short => rw [hq] at h; cases h; decide
  | bad _ => rw [hq] at h; cases h; decide
  | fin s n =>
    rw [hq] at h
    simp only at h
    split at h
    · cases h
    · cases h; decide
def nameR (ns : List ByteArray) (l : List UInt8) (p : Nat) : Rd ByteArray :=
  match textR l p with
  | .no e q => .no e q
  | .ok n q => if hasName ns n = true then .no 16 p else .ok n q
theorem name_no {ns : List ByteArray} {l : List UInt8} {p : Nat} {e : Int} {q : Nat} (h : nameR ns l p = .no e q) : e ≠ 0 := by
  unfold nameR at h
  cases hq : textR l p with
  | no e' q' => rw [hq] at h; cases h; exact text_no hq
  | ok n q' =>
    rw [hq] at h
    simp only at h
    split at h
    · cases h; decide
    · cases h
theorem name_ok {ns : List ByteArray} {l : List UInt8} {p : Nat} {n : ByteArray} {q : Nat} (h : nameR ns l p = .ok n q) : textR l p = .ok n q ∧ hasName ns n = false := by
  unfold nameR at h
  cases hq : textR l p with
  | no e' q' => rw [hq] at h; cases h
  | ok n' q' =>
    rw [hq] at h
    simp only at h
    split at h
    · cases h
    · rename_i h1
      cases h
      exact ⟨rfl, by simpa using h1⟩
theorem text_size {l : List UInt8} {p : Nat} {n : ByteArray} {q : Nat} (h : textR l p = .ok n q) : n.size ≤ l.length := by
  obtain ⟨h1, h2, h3, -⟩ := text_sound h
  have h4 := congrArg List.length h1
  rw [List.length_drop, List.length_append] at h4
  have h5 := keyS_at n.data.toList
  have e : n.size = n.data.toList.length := by rw [Array.length_toList]; rfl
  omega
set_option maxHeartbeats 2000000 in
set_option maxRecDepth 100000 in
theorem name_code (r g cap p m : Nat) (l : List UInt8) (ns : List ByteArray) (w : World) (hB : Hid (Base w r g cap l)) (h : Hid (At w r g cap l.length p)) (hp : p ≤ l.length) (hm : r < m) (hS : Hid (SetAt m ns w)) (hnl : ns.length ≤ 1000000000) :
    Calls Tryd.prog 47 #[.pointer (some ⟨r, 0, none⟩), .map (some m)] w fun x w' => x = .returned (.tuple #[.string (nameR ns l p).text, .int .i64 (nameR ns l p).code]) ∧ At w' r g cap l.length (nameR ns l p).place ∧ Fr (fun k => k = r ∨ k = m) w w' ∧ ∀ n q, nameR ns l p = .ok n q → SetAt m (ns ++ [n]) w' := by
  have hlen := hB.out.len
  have hrl := hB.out.lt
  obtain ⟨R, hR⟩ : ∃ R, Hid (nameR ns l p = R) := ⟨_, hid_e rfl⟩
  rw [hR.out]
  have htx := hid_e (rtext_code r g cap p l w hB h hp)
  obtain ⟨T, hT⟩ : ∃ T, Hid (textR l p = T) := ⟨_, hid_e rfl⟩
  rw [hT.out] at htx
  obtain ⟨y0, y1, yf⟩ := two_cells h.out
  clear y0 yf
  go_enter Tryd.func47, Tryd.ntmps47
  go_wp2_with fail
  go_fit htx.out
  clear htx y1
  rintro e1 w1 ⟨rfl, hA1, hF1⟩
  have hS1 : SetAt m ns w1 := hS.out.keep (hF1.block m hS.out.lt (by omega))
  cases T with
  | no e q =>
    have hRe : R = .no e q := by rw [← hR.out]; unfold nameR; rw [hT.out]
    subst hRe
    have hce : (Rd.no e q : Rd ByteArray).code = e := rfl
    have he := text_no hT.out
    have he' : (e == 0) = false := by simpa using he
    go_wp2_with fail
    go_ret2
    exact ⟨rfl, hA1, hF1.wide (fun _ e => .inl e), (fun _ _ e => by cases e)⟩
  | ok n q =>
    have hce : (Rd.ok n q : Rd ByteArray).code = 0 := rfl
    have hct : (Rd.ok n q : Rd ByteArray).text = n := rfl
    have hns := text_size hT.out
    have hown : w1.ownsMap Tryd.prog 9 (unitElem (H := Unit)) m ns.length (setOf (.agg []) (ns.map keyL)) := hS1
    have hkey := key_big n (by omega)
    have hhas := has_set ns n
    have hF1' : Fr (fun k => k = r ∨ k = m) w w1 := ⟨hF1.os, hF1.tape, hF1.output, hF1.size, fun k hk hs => hF1.block k hk (fun e => hs (.inl e))⟩
    cases hh : hasName ns n with
    | true =>
      have hRe : R = .no 16 p := by rw [← hR.out]; unfold nameR; rw [hT.out]; simp only; rw [if_pos hh]
      subst hRe
      rw [hh] at hhas
      have hA2 := hA1.keep (S := fun _ => False) ((Fr.refl _ w1).alloc (.cells #[] 89)) (fun e => e)
      have hfl := hid_e (fault_code r g cap l.length q p 16 _ hA2)
      go_wp2_with (at_lookup; refine wpList_lookup_own_unit _ rfl _ _ 80 rfl 9 89 law9 Tryd.underlying80 (zero103 _) m ns.length _ rfl hown _ _ rfl hkey ?_)
      go_fit hfl.out
      rintro e2 w2 ⟨rfl, h1, h2⟩
      go_wp2_with fail
      go_ret2
      exact ⟨rfl, h1, (hF1'.alloc _).next h2 (fun i e => .inl (.inl e)), (fun _ _ e => by cases e)⟩
    | false =>
      have hRe : R = .ok n q := by rw [← hR.out]; unfold nameR; rw [hT.out]; simp only; rw [if_neg (by rw [hh]; decide)]
      subst hRe
      rw [hh] at hhas
      go_wp2_with (first
        | (at_lookup; refine wpList_lookup_own_unit _ rfl _ _ 80 rfl 9 89 law9 Tryd.underlying80 (zero103 _) m ns.length _ rfl hown _ _ rfl hkey ?_)
        | (at_mapUpdate; refine wpList_mapUpdate_own _ rfl _ _ _ 80 rfl 9 89 law9 Tryd.underlying80 (unitElem (H := Unit)) m ns.length _ rfl (hown.alloc _) (by unfold maxLen; omega) _ _ _ rfl rfl hkey _ [] unitElem_mk ?_; intro w2 hown2 hgrow2))
      go_ret2
      have hA2 := hA1.keep (S := fun _ => False) ((Fr.refl _ w1).alloc (.cells #[] 89)) (fun e => e)
      refine ⟨rfl, (hgrow2.block r hA2.lt (by simp; omega)).trans hA2, (hF1'.alloc _).grown hgrow2 (fun g hg => .inl (.inr (by simpa using hg.symm))), fun n' q' e => ?_⟩
      cases e
      unfold SetAt
      rw [List.map_append, List.map_cons, List.map_nil, setOf_snoc, List.length_append]
      exact hown2
end Go.Proofs.YtjmneiepcbpdpaaDoor
/-! The reader's lists. -/
namespace Go.Proofs.YtjmneiepcbpdpaaDoor
open Go Go.RowKit

/-- What is asked of the reader of items. -/
def ValOk (val : Nat → Rd Tr) (r g cap : Nat) (l : List UInt8) (d : Int) : Prop := ∀ q w, Base w r g cap l → At w r g cap l.length q → q ≤ l.length → Calls Tryd.prog 16 #[.pointer (some ⟨r, 0, none⟩), .int .i64 d] w (ValPost w r g cap l (val q))
theorem more_no {l : List UInt8} {p : Nat} {e : Int} {q : Nat} (h : moreR l p = .no e q) : e ≠ 0 := by
  unfold moreR at h
  cases hb : l[p]? with
  | none => rw [hb] at h; cases h; decide
  | some b =>
    rw [hb] at h
    simp only at h
    split at h
    · cases h
    split at h
    · cases h
    · cases h; decide
/-- A list or an object under way. -/
structure LAt (w : World) (r g cap n q : Nat) (k : Int) (nm it : Value) (wr : World) : Prop where
  at_ : At wr r g cap n q
  fr : Fr (· = r) w wr
  res : wr.heap[w.heap.size]? = some (.cells #[.int .i64 0, .int .i64 0, .string ⟨#[]⟩, .slice none 0 0, .slice none 0 0] 25 (0, 0))
  box : wr.heap[w.heap.size + 1]? = some (.cells #[.int .i64 k, .int .i64 0, .string ⟨#[]⟩, nm, it] 25 (0, 0))
theorem LAt.next {w wr w' : World} {r g cap n q q' : Nat} {k : Int} {nm it : Value} (h : LAt w r g cap n q k nm it wr) (hr : r < w.heap.size) (hA : At w' r g cap n q') (hF : Fr (· = r) wr w') : LAt w r g cap n q' k nm it w' :=
  ⟨hA, h.fr.trans hF, (hF.block _ (Array.getElem?_eq_some_iff.1 h.res).1 (by omega)).trans h.res, (hF.block _ (Array.getElem?_eq_some_iff.1 h.box).1 (by omega)).trans h.box⟩
/-- The items that were read: in new blocks, but for the boxes and the rows. -/
def ItsSeen (w : World) (P : Nat → Prop) (ts : List Tr) (xs : List Value) (wr : World) : Prop := ∀ W', Agree (fun j => w.heap.size + 1 < j ∧ ¬ P j) wr W' → ItemsRep W' ts xs
theorem ItsSeen.next {w wr w' : World} {r : Nat} {P : Nat → Prop} {ts : List Tr} {xs : List Value} (h : ItsSeen w P ts xs wr) (hr : r < w.heap.size) (hF : Fr (· = r) wr w') : ItsSeen w P ts xs w' := fun W' a =>
  h W' ⟨Nat.le_trans hF.size a.1, fun p u hp hc => a.2 p u hp (hF.cell hc (by omega))⟩
theorem Seen.wide {W : World} {S T : Nat → Prop} {t : Tr} {cs : List Value} (h : Seen W S t cs) (hS : ∀ k, S k → T k) : Seen W T t cs := fun W' a => h W' ⟨a.1, fun p u hp => a.2 p u (hS _ hp)⟩
/-- One item more: the row has grown, and the box tells it. -/
theorem list_step {w wr X w5 : World} {r g cap n q q2 : Nat} {k : Int} {nm : Value} {ao : Option Addr} {m ci : Nat} {ts : List Tr} {xs : List Value} {u : Tr} {cs : List Value} {g4 cap4 : Nat}
    (hr : r < w.heap.size) (hL : LAt w r g cap n q k nm (.slice ao m ci) wr) (hown : wr.ownsRow (w.heap.size + 2) 25 5 (.slice ao m ci) m xs) (hS : ItsSeen w (fun j => (Value.slice ao m ci).ownBlock = some j) ts xs wr)
    (hX : Fr (· = r) wr X) (hA : At X r g cap n q2) (hu : Seen X (fun j => wr.heap.size ≤ j) u cs) (hcs : cs.length = 5)
    (hgrow : X.grownBy w5 (Value.slice ao m ci).ownBlock) (hat : (Value.slice ao m ci).ownBlock = some g4 ∨ g4 = X.heap.size)
    (hown5 : w5.ownsRow (w.heap.size + 2) 25 5 (.slice (some ⟨g4, 0, none⟩) (m + 1) cap4) (m + 1) (xs ++ cs)) :
    LAt w r g cap n q2 k nm (.slice (some ⟨g4, 0, none⟩) (m + 1) cap4) (w5.setCell ⟨w.heap.size + 1, 4, none⟩ (.slice (some ⟨g4, 0, none⟩) (m + 1) cap4)) ∧
      (w5.setCell ⟨w.heap.size + 1, 4, none⟩ (.slice (some ⟨g4, 0, none⟩) (m + 1) cap4)).ownsRow (w.heap.size + 2) 25 5 (.slice (some ⟨g4, 0, none⟩) (m + 1) cap4) (m + 1) (xs ++ cs) ∧
      ItsSeen w (fun j => (Value.slice (some ⟨g4, 0, none⟩) (m + 1) cap4).ownBlock = some j) (ts ++ [u]) (xs ++ cs) (w5.setCell ⟨w.heap.size + 1, 4, none⟩ (.slice (some ⟨g4, 0, none⟩) (m + 1) cap4)) := by
  have own_lt : ∀ j, (Value.slice ao m ci).ownBlock = some j → w.heap.size + 2 ≤ j ∧ j < wr.heap.size := fun j hj => ownsRow_ge hown hj
  have g4lo : w.heap.size + 2 ≤ g4 := (ownsRow_ge hown5 (g := g4) rfl).1
  have hxs := hX.size
  have h5s := hgrow.size
  have hb1 : w.heap.size + 1 < wr.heap.size := (Array.getElem?_eq_some_iff.1 hL.box).1
  have far5 : ∀ j, j < wr.heap.size → j ≠ r → (Value.slice ao m ci).ownBlock ≠ some j → w5.heap[j]? = wr.heap[j]? := fun j hj hjr hne =>
    (hgrow.block j (by omega) (fun e => hne e.symm)).trans (hX.block j hj hjr)
  have far6 : ∀ (v : Value) j, j ≠ w.heap.size + 1 → (w5.setCell ⟨w.heap.size + 1, 4, none⟩ v).heap[j]? = w5.heap[j]? := fun v j hj => Below.heap_setCell _ _ _ _ hj
  have hF5 : Fr (· = r) w w5 := (hL.fr.trans hX).grown hgrow (fun g hg => .inr (by have := own_lt g hg; omega))
  have hA5 : At w5 r g cap n q2 := (hgrow.block r hA.lt (fun e => by have := own_lt r e.symm; omega)).trans hA
  have hbox5 := (far5 (w.heap.size + 1) hb1 (by omega) (fun e => by have := own_lt _ e; omega)).trans hL.box
  have hsz6 : ∀ v, (w5.setCell ⟨w.heap.size + 1, 4, none⟩ v).heap.size = w5.heap.size := fun v => by simp [World.setCell]
  refine ⟨⟨(far6 _ r (by omega)).trans hA5, hF5.set _ _ (.inr (by show w.heap.size ≤ w.heap.size + 1; omega)), ?_, ?_⟩, ownsRow_keep hown5 (fun j hj => ?_), fun W' a => ?_⟩
  · rw [far6 _ _ (by omega), far5 _ (by omega) (by omega) (fun e => by have := own_lt _ e; omega)]
    exact hL.res
  · simp [World.setCell, Array.getElem?_modify, hbox5]
  · cases hj
    exact far6 _ g4 (by omega)
  · have hsz := a.1
    rw [hsz6] at hsz
    have hold : Agree (fun j => w.heap.size + 1 < j ∧ ¬ (Value.slice ao m ci).ownBlock = some j) wr W' := ⟨by omega, fun p v hp hv => a.2 p v ⟨hp.1, fun e => ?_⟩ ?_⟩
    · have hnew : Agree (fun j => wr.heap.size ≤ j) X W' := ⟨by omega, fun p v hp hv => a.2 p v ⟨by omega, fun e => ?_⟩ ?_⟩
      · exact ItemsRep.snoc hcs (hu W' hnew) (hS W' hold)
      · have : g4 = p.block := by simpa [Value.ownBlock] using e
        have hl := lt_of_cell hv
        rcases hat with h | h
        · have := own_lt _ h; omega
        · omega
      · have hl := lt_of_cell hv
        refine (World.cell?_of_block (w := X) (a := p) ((far6 _ _ (by omega)).trans (hgrow.block _ hl (fun e => ?_)))).trans hv
        have := own_lt _ e.symm
        omega
    · have : g4 = p.block := by simpa [Value.ownBlock] using e
      rcases hat with h | h
      · exact hp.2 (by rw [h, this])
      · have := lt_of_cell hv; omega
    · have hl := lt_of_cell hv
      exact (World.cell?_of_block (w := wr) (a := p) ((far6 _ _ (by omega)).trans (far5 _ hl (by omega) hp.2))).trans hv
theorem items_rep {W' : World} {gi : Nat} {its : List Tr} {xs : List Value} (hI : ItemsRep W' its xs) (hc : ∀ j u, xs[j]? = some u → W'.cell? ⟨gi, j, none⟩ = some u) : VRepL W' gi 0 its :=
  ItemsRep.list its xs 0 hI (fun j u hj => by rw [Nat.zero_add]; exact hc j u hj)
/-- The end of a list. -/
theorem list_end {w wr : World} {r g cap n q : Nat} {ao : Option Addr} {ci : Nat} {its : List Tr} {xs : List Value} (hL : LAt w r g cap n q 5 (.slice none 0 0) (.slice ao its.length ci) wr) (hown : wr.ownsRow (w.heap.size + 2) 25 5 (.slice ao its.length ci) its.length xs)
    (hS : ItsSeen w (fun j => (Value.slice ao its.length ci).ownBlock = some j) its xs wr) (c0 c1 c2 c3 c4 : Value) :
    Seen (put5 wr w.heap.size c0 c1 c2 c3 c4) (fun j => w.heap.size ≤ j) (.node 5 0 ⟨#[]⟩ [] its) (five 5 0 ⟨#[]⟩ (.slice none 0 0) (.slice ao its.length ci)) := by
  intro W' hW
  have hAll : ∀ p v, w.heap.size < p.block → wr.cell? p = some v → W'.cell? p = some v := fun p v hp hv =>
    hW.2 p v (by omega) ((World.cell?_of_block (w := wr) (a := p) (put5_far _ _ _ _ _ (by omega))).trans hv)
  have hsz : wr.heap.size ≤ W'.heap.size := by have := hW.1; rw [put5_size] at this; exact this
  have hI := hS W' ⟨hsz, fun p v hp hv => hAll p v (by omega) hv⟩
  unfold VRep
  rcases hown.2 with ⟨hv, h0⟩ | ⟨gi, ci', cur, hv, hg, hh, hc, hm, rr⟩
  · have e := List.eq_nil_of_length_eq_zero h0
    subst e
    exact ⟨_, ao, ci, rfl, ⟨none, 0, rfl, ⟨Nat.le_refl _, by omega⟩, .inl rfl⟩, ⟨Nat.zero_le _, by injection hv with _ _ h3; omega⟩, .inl rfl⟩
  · cases hv
    refine ⟨_, _, ci, rfl, ⟨none, 0, rfl, ⟨Nat.le_refl _, by omega⟩, .inl rfl⟩, ⟨hc, by unfold maxLen at hm; omega⟩, .inr ⟨gi, 0, rfl, Nat.lt_of_lt_of_le (Array.getElem?_eq_some_iff.1 hh).1 hsz, items_rep hI (fun j u hj => hAll ⟨gi, j, none⟩ u (by show w.heap.size < gi; omega) (row_cell hown j u hj))⟩⟩
end Go.Proofs.YtjmneiepcbpdpaaDoor
