import Derived.Test.YtjmneiepcbpdpaaDoorBJ
import Derived.Maps.OwnSet
/-! The reader's names. -/
namespace Go.Proofs.YtjmneiepcbpdpaaDoor
open Go Go.RowKit Go.Maps

theorem Fr.wide {S T : Nat → Prop} {w w' : World} (h : Fr S w w') (hS : ∀ k, S k → T k) : Fr T w w' := ⟨h.os, h.tape, h.output, h.size, fun k hk hs => h.block k hk (fun e => hs (hS k e))⟩
theorem text_no {l : List UInt8} {p : Nat} {e : Int} {q : Nat} (h : textR l p = .no e q) : e ≠ 0 := by
  unfold textR at h
  cases hq : scan (l.drop p) with
  | short => rw [hq] at h; cases h; decide
  | bad _ => rw [hq] at h; cases h; decide
  | fin s n =>
    rw [hq] at h
    simp only at h
    split at h
    · cases h
    · cases h; decide
def nameR (ns : List ByteArray) (l : List UInt8) (p : Nat) : Rd ByteArray :=
  match textR l p with
  | .no e q => .no e q
  | .ok n q => if hasName ns n = true then .no 16 p else .ok n q
theorem name_no {ns : List ByteArray} {l : List UInt8} {p : Nat} {e : Int} {q : Nat} (h : nameR ns l p = .no e q) : e ≠ 0 := by
  unfold nameR at h
  cases hq : textR l p with
  | no e' q' => rw [hq] at h; cases h; exact text_no hq
  | ok n q' =>
    rw [hq] at h
    simp only at h
    split at h
    · cases h; decide
    · cases h
theorem name_ok {ns : List ByteArray} {l : List UInt8} {p : Nat} {n : ByteArray} {q : Nat} (h : nameR ns l p = .ok n q) : textR l p = .ok n q ∧ hasName ns n = false := by
  unfold nameR at h
  cases hq : textR l p with
  | no e' q' => rw [hq] at h; cases h
  | ok n' q' =>
    rw [hq] at h
    simp only at h
    split at h
    · cases h
    · rename_i h1
      cases h
      exact ⟨rfl, by simpa using h1⟩
theorem text_size {l : List UInt8} {p : Nat} {n : ByteArray} {q : Nat} (h : textR l p = .ok n q) : n.size ≤ l.length := by
  obtain ⟨h1, h2, h3, -⟩ := text_sound h
  have h4 := congrArg List.length h1
  rw [List.length_drop, List.length_append] at h4
  have h5 := keyS_at n.data.toList
  have e : n.size = n.data.toList.length := by rw [Array.length_toList]; rfl
  omega
set_option maxHeartbeats 2000000 in
set_option maxRecDepth 100000 in
theorem name_code (r g cap p m : Nat) (l : List UInt8) (ns : List ByteArray) (w : World) (hB : Hid (Base w r g cap l)) (h : Hid (At w r g cap l.length p)) (hp : p ≤ l.length) (hm : r < m) (hS : Hid (SetAt m ns w)) (hnl : ns.length ≤ 1000000000) :
    Calls Tryd.prog 47 #[.pointer (some ⟨r, 0, none⟩), .map (some m)] w fun x w' => x = .returned (.tuple #[.string (nameR ns l p).text, .int .i64 (nameR ns l p).code]) ∧ At w' r g cap l.length (nameR ns l p).place ∧ Fr (fun k => k = r ∨ k = m) w w' ∧ ∀ n q, nameR ns l p = .ok n q → SetAt m (ns ++ [n]) w' := by
  have hlen := hB.out.len
  have hrl := hB.out.lt
  obtain ⟨R, hR⟩ : ∃ R, Hid (nameR ns l p = R) := ⟨_, hid_e rfl⟩
  rw [hR.out]
  have htx := hid_e (rtext_code r g cap p l w hB h hp)
  obtain ⟨T, hT⟩ : ∃ T, Hid (textR l p = T) := ⟨_, hid_e rfl⟩
  rw [hT.out] at htx
  obtain ⟨y0, y1, yf⟩ := two_cells h.out
  clear y0 yf
  go_enter Tryd.func47, Tryd.ntmps47
  go_wp2_with fail
  go_fit htx.out
  clear htx y1
  rintro e1 w1 ⟨rfl, hA1, hF1⟩
  have hS1 : SetAt m ns w1 := hS.out.keep (hF1.block m hS.out.lt (by omega))
  cases T with
  | no e q =>
    have hRe : R = .no e q := by rw [← hR.out]; unfold nameR; rw [hT.out]
    subst hRe
    have hce : (Rd.no e q : Rd ByteArray).code = e := rfl
    have he := text_no hT.out
    have he' : (e == 0) = false := by simpa using he
    go_wp2_with fail
    go_ret2
    exact ⟨rfl, hA1, hF1.wide (fun _ e => .inl e), (fun _ _ e => by cases e)⟩
  | ok n q =>
    have hce : (Rd.ok n q : Rd ByteArray).code = 0 := rfl
    have hct : (Rd.ok n q : Rd ByteArray).text = n := rfl
    have hns := text_size hT.out
    have hown : w1.ownsMap Tryd.prog 9 (unitElem (H := Unit)) m ns.length (setOf (.agg []) (ns.map keyL)) := hS1
    have hkey := key_big n (by omega)
    have hhas := has_set ns n
    have hF1' : Fr (fun k => k = r ∨ k = m) w w1 := ⟨hF1.os, hF1.tape, hF1.output, hF1.size, fun k hk hs => hF1.block k hk (fun e => hs (.inl e))⟩
    cases hh : hasName ns n with
    | true =>
      have hRe : R = .no 16 p := by rw [← hR.out]; unfold nameR; rw [hT.out]; simp only; rw [if_pos hh]
      subst hRe
      rw [hh] at hhas
      have hA2 := hA1.keep (S := fun _ => False) ((Fr.refl _ w1).alloc (.cells #[] 89)) (fun e => e)
      have hfl := hid_e (fault_code r g cap l.length q p 16 _ hA2)
      go_wp2_with (at_lookup; refine wpList_lookup_own_unit _ rfl _ _ 80 rfl 9 89 law9 Tryd.underlying80 (zero103 _) m ns.length _ rfl hown _ _ rfl hkey ?_)
      go_fit hfl.out
      rintro e2 w2 ⟨rfl, h1, h2⟩
      go_wp2_with fail
      go_ret2
      exact ⟨rfl, h1, (hF1'.alloc _).next h2 (fun i e => .inl (.inl e)), (fun _ _ e => by cases e)⟩
    | false =>
      have hRe : R = .ok n q := by rw [← hR.out]; unfold nameR; rw [hT.out]; simp only; rw [if_neg (by rw [hh]; decide)]
      subst hRe
      rw [hh] at hhas
      go_wp2_with (first
        | (at_lookup; refine wpList_lookup_own_unit _ rfl _ _ 80 rfl 9 89 law9 Tryd.underlying80 (zero103 _) m ns.length _ rfl hown _ _ rfl hkey ?_)
        | (at_mapUpdate; refine wpList_mapUpdate_own _ rfl _ _ _ 80 rfl 9 89 law9 Tryd.underlying80 (unitElem (H := Unit)) m ns.length _ rfl (hown.alloc _) (by unfold maxLen; omega) _ _ _ rfl rfl hkey _ [] unitElem_mk ?_; intro w2 hown2 hgrow2))
      go_ret2
      have hA2 := hA1.keep (S := fun _ => False) ((Fr.refl _ w1).alloc (.cells #[] 89)) (fun e => e)
      refine ⟨rfl, (hgrow2.block r hA2.lt (by simp; omega)).trans hA2, (hF1'.alloc _).grown hgrow2 (fun g hg => .inl (.inr (by simpa using hg.symm))), fun n' q' e => ?_⟩
      cases e
      unfold SetAt
      rw [List.map_append, List.map_cons, List.map_nil, setOf_snoc, List.length_append]
      exact hown2
end Go.Proofs.YtjmneiepcbpdpaaDoor
