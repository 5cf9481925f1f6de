import Derived.Test.YtjmneiepcbpdpaaDoorBN
/-! The reader's values, all of them; FromBytes: its objects being read as they should. -/
namespace Go.Proofs.YtjmneiepcbpdpaaDoor
open Go Go.RowKit

/-- What is asked of the reader of objects. -/
def ObjOk (r g cap : Nat) (l : List UInt8) : Prop := ∀ (d : Nat) (val : Nat → Rd Tr), d ≤ 63 → ValOk val r g cap l ((d : Int) + 1) → (∀ q e q', val q = .no e q' → e ≠ 0) → (∀ q t q', val q = .ok t q' → q < q' ∧ q' ≤ l.length) → NestOk 28 (fun q => objR val l (l.length + 1) q [] []) r g cap l d
theorem list_no {l : List UInt8} {val : Nat → Rd Tr} (hv : ∀ q e q', val q = .no e q' → e ≠ 0) : ∀ (f p : Nat) (its : List Tr) (e : Int) (q : Nat), listR val l f p its = .no e q → e ≠ 0
  | 0, p, its, e, q, h => by rw [listR] at h; cases h; decide
  | f + 1, p, its, e, q, h => by
    rw [listR] at h
    cases hm : moreR l p with
    | no e' q' => rw [hm] at h; cases h; exact more_no hm
    | ok b q' =>
      cases b
      · rw [hm] at h; cases h
      · rw [hm] at h
        simp only at h
        cases hw : val q' with
        | no e2 q2 => rw [hw] at h; cases h; exact hv _ _ _ hw
        | ok u q2 => rw [hw] at h; exact list_no hv f _ _ _ _ h
theorem obj_no {l : List UInt8} {val : Nat → Rd Tr} (hv : ∀ q e q', val q = .no e q' → e ≠ 0) : ∀ (f p : Nat) (ns : List ByteArray) (its : List Tr) (e : Int) (q : Nat), objR val l f p ns its = .no e q → e ≠ 0
  | 0, p, ns, its, e, q, h => by rw [objR] at h; cases h; decide
  | f + 1, p, ns, its, e, q, h => by
    rw [objR] at h
    cases hm : moreR l p with
    | no e' q' => rw [hm] at h; cases h; exact more_no hm
    | ok b q' =>
      cases b
      · rw [hm] at h; cases h
      · rw [hm] at h
        simp only at h
        cases hx : textR l q' with
        | no e2 q2 => rw [hx] at h; cases h; exact text_no hx
        | ok n q2 =>
          rw [hx] at h
          simp only at h
          cases hh : hasName ns n with
          | true => rw [hh, if_pos rfl] at h; cases h; decide
          | false =>
            rw [hh, if_neg (by decide)] at h
            cases hw : val q2 with
            | no e3 q3 => rw [hw] at h; cases h; exact hv _ _ _ hw
            | ok u q3 => rw [hw] at h; exact obj_no hv f _ _ _ _ _ h
theorem one_no {l : List UInt8} {val : Nat → Rd Tr} {deep : Bool} (hv : ∀ q e q', val q = .no e q' → e ≠ 0) {p : Nat} {e : Int} {q : Nat} (h : oneR val deep l p = .no e q) : e ≠ 0 := by
  unfold oneR at h
  cases hb : l[p]? with
  | none => rw [hb] at h; cases h; decide
  | some b =>
    rw [hb] at h
    simp only at h
    split at h
    · cases h; decide
    split at h
    · cases h
    split at h
    · cases hx : numR l (p + 1) with
      | no e' q' =>
        rw [hx] at h
        cases h
        unfold numR at hx
        split at hx
        · cases hx; decide
        · cases hx
      | ok x q' => rw [hx] at h; cases h
    split at h
    · cases hx : textR l (p + 1) with
      | no e' q' => rw [hx] at h; cases h; exact text_no hx
      | ok x q' => rw [hx] at h; cases h
    split at h
    · exact obj_no hv _ _ _ _ _ _ h
    split at h
    · exact list_no hv _ _ _ _ _ h
    split at h
    · cases h
    split at h
    · cases h
    · cases h; decide
theorem val_no {l : List UInt8} : ∀ (n p : Nat) (e : Int) (q : Nat), valR l n p = .no e q → e ≠ 0
  | 0, p, e, q, h => by
    rw [valR] at h
    exact one_no (fun _ _ _ h => by cases h; decide) h
  | n + 1, p, e, q, h => by
    rw [valR] at h
    exact one_no (val_no n) h
theorem val_ok {r g cap : Nat} {l : List UInt8} (hobj : ObjOk r g cap l) : ∀ (n d : Nat), d + n = 64 → ValOk (valR l n) r g cap l (d : Int)
  | 0, d, hd => fun q w hB hA hq => by
    rw [valR]
    exact value_one r g cap q d l _ true w (hid_e hB) (hid_e hA) hq (by omega) (by rw [decide_eq_true (by omega)]) (hid_e (fun h => by omega)) (hid_e (fun h => by omega))
  | n + 1, d, hd => fun q w hB hA hq => by
    rw [valR]
    have hv : ValOk (valR l n) r g cap l ((d : Int) + 1) := by
      have := val_ok hobj n (d + 1) (by omega)
      rw [show (((d + 1 : Nat) : Int)) = (d : Int) + 1 by omega] at this
      exact this
    have hle : ∀ q t q', valR l n q = .ok t q' → q < q' ∧ q' ≤ l.length := fun q t q' h => by
      have s := val_sound n (d + 1) (by omega) q t q' h
      exact ⟨s.lt, s.le⟩
    exact value_one r g cap q d l _ false w (hid_e hB) (hid_e hA) hq (by omega) (by rw [decide_eq_false (by omega)]) (hid_e (fun h => hobj d _ h hv (val_no n) hle))
      (hid_e (fun h q' w' hB' hA' hq' => list_code r g cap q' d l _ w' (hid_e hB') (hid_e hA') hq' h (hid_e hv) (hid_e (val_no n)) (hid_e hle)))
/-- What FromBytes tells. -/
def fromR (l : List UInt8) : Rd Tr :=
  match valR l 64 0 with
  | .no e q => .no e q
  | .ok t q => if q < l.length then .no 4 q else .ok t 0
theorem from_no {l : List UInt8} {e : Int} {q : Nat} (h : fromR l = .no e q) : e ≠ 0 := by
  unfold fromR at h
  cases hv : valR l 64 0 with
  | no e' q' => rw [hv] at h; cases h; exact val_no _ _ _ _ hv
  | ok t q' =>
    rw [hv] at h
    simp only at h
    split at h
    · cases h; decide
    · cases h
theorem from_sound {l : List UInt8} {t : Tr} {q : Nat} (h : fromR l = .ok t q) : l = keyT t ∧ checkT 0 t = 0 ∧ RangeT t := by
  unfold fromR at h
  cases hv : valR l 64 0 with
  | no e' q' => rw [hv] at h; cases h
  | ok t' q' =>
    rw [hv] at h
    simp only at h
    split at h
    · cases h
    · rename_i hq
      cases h
      have s := val_sound 64 0 rfl 0 t q' hv
      have e : q' = l.length := by have := s.le; omega
      subst e
      refine ⟨?_, s.check, s.range⟩
      have := s.at_
      rw [List.drop_length, List.append_nil, List.drop_zero] at this
      exact this
theorem from_full (t : Tr) (hc : checkT 0 t = 0) (hr : RangeT t) : fromR (keyT t) = .ok t 0 := by
  unfold fromR
  rw [val_full 64 0 rfl t hc hr 0 [] (by rw [List.append_nil, List.drop_zero])]
  simp only
  rw [if_neg (by omega)]
end Go.Proofs.YtjmneiepcbpdpaaDoor
