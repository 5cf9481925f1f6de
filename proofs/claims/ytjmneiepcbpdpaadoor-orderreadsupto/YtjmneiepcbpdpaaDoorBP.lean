import Derived.Test.YtjmneiepcbpdpaaDoorBN
/-! The reader's values, all of them; FromBytes: its objects being read as they should. -/
namespace Go.Proofs.YtjmneiepcbpdpaaDoor
open Go Go.RowKit

/-- What is asked of the reader of objects. -/
def ObjOk (r g cap : Nat) (l : List UInt8) : Prop := ∀ (d : Nat) (val : Nat → Rd Tr), d ≤ 63 → ValOk val r g cap l ((d : Int) + 1) → (∀ q e q', val q = .no e q' → e ≠ 0) → (∀ q t q', val q = .ok t q' → q < q' ∧ q' ≤ l.length) → NestOk 28 (fun q => objR val l (l.length + 1) q [] []) r g cap l d
theorem list_no {l : List UInt8} {val : Nat → Rd Tr} (hv : ∀ q e q', val q = .no e q' → e ≠ 0) : ∀ (f p : Nat) (its : List Tr) (e : Int) (q : Nat), listR val l f p its = .no e q → e ≠ 0
  | 0, p, its, e, q, h => by rw [listR] at h; cases h; decide
  | f + 1, p, its, e, q, h => by
    rw [listR] at h
    cases hm : moreR l p with
    | no e' q' => rw [hm] at h; cases h; exact more_no hm
    | ok b q' =>
      cases b
      · rw [hm] at h; cases h
      · rw [hm] at h
        simp only at h
        cases hw : val q' with
        | no e2 q2 => rw [hw] at h; cases h; exact hv _ _ _ hw
        | ok u q2 => rw [hw] at h; exact list_no hv f _ _ _ _ h
theorem obj_no {l : List UInt8} {val : Nat → Rd Tr} (hv : ∀ q e q', val q = .no e q' → e ≠ 0) : ∀ (f p : Nat) (ns : List ByteArray) (its : List Tr) (e : Int) (q : Nat), objR val l f p ns its = .no e q → e ≠ 0
  | 0, p, ns, its, e, q, h => by rw [objR] at h; cases h; decide
  | f + 1, p, ns, its, e, q, h => by
    rw [objR] at h
    cases hm : moreR l p with
    | no e' q' => rw [hm] at h; cases h; exact more_no hm
    | ok b q' =>
      cases b
      · rw [hm] at h; cases h
      · rw [hm] at h
        simp only at h
        cases hx : textR l q' with
        | no e2 q2 => rw [hx] at h; cases h; exact text_no hx
        | ok n q2 =>
          rw [hx] at h
          simp only at h
          cases hh : hasName ns n with
          | true => rw [hh, if_pos rfl] at h; cases h; decide
          | false =>
            rw [hh, if_neg (by decide)] at h
            cases hw : val q2 with
            | no e3 q3 => rw [hw] at h; cases h; exact hv _ _ _ hw
            | ok u q3 => rw [hw] at h; exact obj_no hv f _ _ _ _ _ h
theorem one_no {l : List UInt8} {val : Nat → Rd Tr} {deep : Bool} (hv : ∀ q e q', val q = .no e q' → e ≠ 0) {p : Nat} {e : Int} {q : Nat} (h : oneR val deep l p = .no e q) : e ≠ 0 := by
  unfold oneR at h
  cases hb : l[p]? with
  | none => rw [hb] at h; cases h; decide
  | some b =>
    rw [hb] at h
    simp only at h
    split at h
    · cases h; decide
    split at h
    · cases h
    split at h
    · cases hx : numR l (p + 1) with
      | no e' q' =>
        rw [hx] at h
        cases h
        unfold numR at hx
        split at hx
        · cases hx; decide
        · cases hx
      | ok x q' => rw [hx] at h; cases h
    split at h
    · cases hx : textR l (p + 1) with
      | no e' q' => rw [hx] at h; cases h; exact text_no hx
      | ok x q' => rw [hx] at h; cases h
    split at h
    · exact obj_no hv _ _ _ _ _ _ h
    split at h
    · exact list_no hv _ _ _ _ _ h
    split at h
    · cases h
    split at h
    · cases h
    · cases h; decide
theorem val_no {l : List UInt8} : ∀ (n p : Nat) (e : Int) (q : Nat), valR l n p = .no e q → e ≠ 0
  | 0, p, e, q, h => by
    rw [valR] at h
    exact one_no (fun _ _ _ h => by cases h; decide) h
  | n + 1, p, e, q, h => by
    rw [valR] at h
    exact one_no (val_no n) h
theorem val_ok {r g cap : Nat} {l : List UInt8} (hobj : ObjOk r g cap l) : ∀ (n d : Nat), d + n = 64 → ValOk (valR l n) r g cap l (d : Int)
  | 0, d, hd => fun q w hB hA hq => by
    rw [valR]
    exact value_one r g cap q d l _ true w (hid_e hB) (hid_e hA) hq (by omega) (by rw [decide_eq_true (by omega)]) (hid_e (fun h => by omega)) (hid_e (fun h => by omega))
  | n + 1, d, hd => fun q w hB hA hq => by
    rw [valR]
    have hv : ValOk (valR l n) r g cap l ((d : Int) + 1) := by
      have := val_ok hobj n (d + 1) (by omega)
      rw [show (((d + 1 : Nat) : Int)) = (d : Int) + 1 by omega] at this
      exact this
    have hle : ∀ q t q', valR l n q = .ok t q' → q < q' ∧ q' ≤ l.length := fun q t q' h => by
      have s := val_sound n (d + 1) (by omega) q t q' h
      exact ⟨s.lt, s.le⟩
    exact value_one r g cap q d l _ false w (hid_e hB) (hid_e hA) hq (by omega) (by rw [decide_eq_false (by omega)]) (hid_e (fun h => hobj d _ h hv (val_no n) hle))
      (hid_e (fun h q' w' hB' hA' hq' => list_code r g cap q' d l _ w' (hid_e hB') (hid_e hA') hq' h (hid_e hv) (hid_e (val_no n)) (hid_e hle)))
/-- What FromBytes tells. -/
def fromR (l : List UInt8) : Rd Tr :=
  match valR l 64 0 with
  | .no e q => .no e q
  | .ok t q => if q < l.length then .no 4 q else .ok t 0
theorem from_no {l : List UInt8} {e : Int} {q : Nat} (h : fromR l = .no e q) : e ≠ 0 := by
  unfold fromR at h
  cases hv : valR l 64 0 with
  | no e' q' => rw [hv] at h; cases h; exact val_no _ _ _ _ hv
  | ok t q' =>
    rw [hv] at h
    simp only at h
    split at h
    · cases h; decide
    · cases h
theorem from_sound {l : List UInt8} {t : Tr} {q : Nat} (h : fromR l = .ok t q) : l = keyT t ∧ checkT 0 t = 0 ∧ RangeT t := by
  unfold fromR at h
  cases hv : valR l 64 0 with
  | no e' q' => rw [hv] at h; cases h
  | ok t' q' =>
    rw [hv] at h
    simp only at h
    split at h
    · cases h
    · rename_i hq
      cases h
      have s := val_sound 64 0 rfl 0 t q' hv
      have e : q' = l.length := by have := s.le; omega
      subst e
      refine ⟨?_, s.check, s.range⟩
      have := s.at_
      rw [List.drop_length, List.append_nil, List.drop_zero] at this
      exact this
theorem from_full (t : Tr) (hc : checkT 0 t = 0) (hr : RangeT t) : fromR (keyT t) = .ok t 0 := by
  unfold fromR
  rw [val_full 64 0 rfl t hc hr 0 [] (by rw [List.append_nil, List.drop_zero])]
  simp only
  rw [if_neg (by omega)]
end Go.Proofs.YtjmneiepcbpdpaaDoor
/-! FromBytes of every bytes: its objects being read as they should. -/
namespace Go.Proofs.YtjmneiepcbpdpaaDoor
open Go Go.RowKit

/-- What FromBytes answers. -/
def FromPost (w : World) (R : Rd Tr) (x : Ending) (w' : World) : Prop :=
  ∃ k x0 s an ln cn ai li ci, x = .returned (.tuple #[.agg #[.int .i64 k, .int .i64 x0, .string s, .slice an ln cn, .slice ai li ci], .int .i64 R.code, .int .i64 (R.place : Int)]) ∧ (∀ t q, R = .ok t q → VRep w' t (five k x0 s (.slice an ln cn) (.slice ai li ci))) ∧ Below w.heap.size w w'
theorem rep_put {w2 : World} {n0 m : Nat} {t : Tr} {cs : List Value} (h : Seen w2 (fun j => m ≤ j) t cs) (hm : n0 < m) (c0 c1 c2 c3 c4 : Value) : VRep (put5 w2 n0 c0 c1 c2 c3 c4) t cs := (seen_put h hm c0 c1 c2 c3 c4).rep
set_option maxHeartbeats 4000000 in
set_option maxRecDepth 100000 in
theorem from_code (g cap : Nat) (l : List UInt8) (w : World) (hrow : RowB w g l) (hcap : l.length ≤ cap) (hcm : cap ≤ 9223372036854775807) (hlen : l.length ≤ 1000000000) (hU : Lib.Utf8Tabs 1 2 w) (h3 : 3 ≤ w.heap.size) (hobj : Hid (∀ r, ObjOk r g cap l)) :
    Calls Tryd.prog 9 #[.slice (some ⟨g, 0, none⟩) l.length cap] w (FromPost w (fromR l)) := by
  have hgl := hrow.lt
  have hFX : Fr (fun _ => False) w ((w.alloc (.cells #[.int .i64 0, .int .i64 0, .string ⟨#[]⟩, .slice none 0 0, .slice none 0 0] 25)).alloc (.cells #[.slice (some ⟨g, 0, none⟩) l.length cap, .int .i64 0] 45)) := ((Fr.refl _ w).alloc _).alloc _
  have n1 := new1 w (.cells #[.int .i64 0, .int .i64 0, .string ⟨#[]⟩, .slice none 0 0, .slice none 0 0] 25) (.cells #[.slice (some ⟨g, 0, none⟩) l.length cap, .int .i64 0] 45)
  have n2 := new2 w (.cells #[.int .i64 0, .int .i64 0, .string ⟨#[]⟩, .slice none 0 0, .slice none 0 0] 25) (.cells #[.slice (some ⟨g, 0, none⟩) l.length cap, .int .i64 0] 45)
  obtain ⟨R, hR⟩ : ∃ R, Hid (fromR l = R) := ⟨_, hid_e rfl⟩
  rw [hR.out]
  go_enter Tryd.func9, Tryd.ntmps9
  go_wp2_with fail
  generalize (w.alloc (.cells #[.int .i64 0, .int .i64 0, .string ⟨#[]⟩, .slice none 0 0, .slice none 0 0] 25)).alloc (.cells #[.slice (some ⟨g, 0, none⟩) l.length cap, .int .i64 0] 45) = X at hFX n1 n2 ⊢
  have hA : At X (w.heap.size + 1) g cap l.length 0 := n2
  have hBs : Base X (w.heap.size + 1) g cap l := ⟨hA.lt, by omega, by omega, hrow.fr hFX (fun e => e), hcap, hcm, hlen, utf_keep hU (fun k hk => hFX.block k (by omega) (fun e => e))⟩
  have hv := hid_e (val_ok (hobj.out (w.heap.size + 1)) 64 0 rfl 0 X hBs hA (Nat.zero_le _))
  obtain ⟨V, hV⟩ : ∃ V, Hid (valR l 64 0 = V) := ⟨_, hid_e rfl⟩
  rw [hV.out] at hv
  go_fit hv.out
  clear hv
  rintro e1 Y ⟨k2, x2, s2, an2, ln2, cn2, ai2, li2, ci2, rfl, hsn, hA2, hF2⟩
  have hXs : w.heap.size + 1 < X.heap.size := hA.lt
  have n3 := (hF2.block w.heap.size (by omega) (by omega)).trans n1
  have hB2 : Below w.heap.size w Y := (hFX.below (Nat.le_refl _) (fun _ e => e.elim)).trans (hF2.below (by omega) (fun i e => by omega))
  have hYs := hF2.size
  have n4 := (Below.heap_alloc Y (.cells #[.int .i64 k2, .int .i64 x2, .string s2, .slice an2 ln2 cn2, .slice ai2 li2 ci2] 25) w.heap.size (by omega)).trans n3
  have hA4 := hA2.keep (S := fun _ => False) ((Fr.refl _ Y).alloc (.cells #[.int .i64 k2, .int .i64 x2, .string s2, .slice an2 ln2 cn2, .slice ai2 li2 ci2] 25)) (fun e => e)
  have hB4 := hB2.alloc (by omega) (.cells #[.int .i64 k2, .int .i64 x2, .string s2, .slice an2 ln2 cn2, .slice ai2 li2 ci2] 25)
  obtain ⟨z0, z1, z2, z3, z4, zf⟩ := row_cells n4
  have zf0 := zf 0; have zf1 := zf 1; have zf2 := zf 2; have zf3 := zf 3; have zf4 := zf 4
  obtain ⟨-, u1, -⟩ := two_cells hA4
  clear zf
  cases V with
  | no e q =>
    have b1 : (Rd.no e q : Rd Tr).code = e := rfl
    have b2 : (Rd.no e q : Rd Tr).place = q := rfl
    have he : (e == 0) = false := by simpa using val_no _ _ _ _ hV.out
    have hRe : Hid (R = .no e q) := by rw [Hid, ← hR.out]; unfold fromR; rw [hV.out]
    go_wp2_with fail
    generalize Y.alloc (.cells #[.int .i64 k2, .int .i64 x2, .string s2, .slice an2 ln2 cn2, .slice ai2 li2 ci2] 25) = Z at n4 hA4 hB4 z0 z1 z2 z3 z4 zf0 zf1 zf2 zf3 zf4 u1 ⊢
    go_region
    all_goals
      go_wp2_with fail
      have hr5 := put5_cells n4 (.int .i64 0) (.int .i64 0) (.string ⟨#[]⟩) (.slice none 0 0) (.slice none 0 0)
      have r0 := hr5 0; have r1 := hr5 1; have r2 := hr5 2; have r3 := hr5 3; have r4 := hr5 4
      clear hr5
      refine bodyPost_ret (v := .tuple #[.agg #[.int .i64 0, .int .i64 0, .string ⟨#[]⟩, .slice none 0 0, .slice none 0 0], .int .i64 e, .int .i64 (q : Int)]) (by simp [results, Tryd.results9, go_sem, r0, r1, r2, r3, r4]) rfl ?_
      rw [hRe.out]
      exact ⟨_, _, _, _, _, _, _, _, _, rfl, (fun t q e => by cases e), below_drew (hB4.trans (put5_below (Nat.le_refl _) _ _ _ _ _))⟩
  | ok t q =>
    have b1 : (Rd.ok t q : Rd Tr).code = 0 := rfl
    have b2 : (Rd.ok t q : Rd Tr).place = q := rfl
    have hql := (val_sound 64 0 rfl 0 t q hV.out).le
    by_cases hq : q < l.length
    · have hq1 : (q : Int) < (l.length : Int) := by omega
      have hRe : Hid (R = .no 4 q) := by rw [Hid, ← hR.out]; unfold fromR; rw [hV.out]; simp only; rw [if_pos hq]
      go_wp2_with fail
      generalize Y.alloc (.cells #[.int .i64 k2, .int .i64 x2, .string s2, .slice an2 ln2 cn2, .slice ai2 li2 ci2] 25) = Z at n4 hA4 hB4 z0 z1 z2 z3 z4 zf0 zf1 zf2 zf3 zf4 u1 ⊢
      go_region
      all_goals
        go_wp2_with fail
        have hr5 := put5_cells n4 (.int .i64 0) (.int .i64 0) (.string ⟨#[]⟩) (.slice none 0 0) (.slice none 0 0)
        have r0 := hr5 0; have r1 := hr5 1; have r2 := hr5 2; have r3 := hr5 3; have r4 := hr5 4
        clear hr5
        refine bodyPost_ret (v := .tuple #[.agg #[.int .i64 0, .int .i64 0, .string ⟨#[]⟩, .slice none 0 0, .slice none 0 0], .int .i64 4, .int .i64 (q : Int)]) (by simp [results, Tryd.results9, go_sem, r0, r1, r2, r3, r4]) rfl ?_
        rw [hRe.out]
        exact ⟨_, _, _, _, _, _, _, _, _, rfl, (fun t q e => by cases e), below_drew (hB4.trans (put5_below (Nat.le_refl _) _ _ _ _ _))⟩
    · have hq1 : ¬ ((q : Int) < (l.length : Int)) := by omega
      have hRe : Hid (R = .ok t 0) := by rw [Hid, ← hR.out]; unfold fromR; rw [hV.out]; simp only; rw [if_neg hq]
      have hsa := (hsn t q rfl).keep ((Below.refl _ Y).alloc (Nat.le_refl _) (.cells #[.int .i64 k2, .int .i64 x2, .string s2, .slice an2 ln2 cn2, .slice ai2 li2 ci2] 25))
      go_wp2_with fail
      have hr5 := put5_cells n4 (.int .i64 k2) (.int .i64 x2) (.string s2) (.slice an2 ln2 cn2) (.slice ai2 li2 ci2)
      have r0 := hr5 0; have r1 := hr5 1; have r2 := hr5 2; have r3 := hr5 3; have r4 := hr5 4
      clear hr5
      refine bodyPost_ret (v := .tuple #[.agg #[.int .i64 k2, .int .i64 x2, .string s2, .slice an2 ln2 cn2, .slice ai2 li2 ci2], .int .i64 0, .int .i64 0]) (by simp [results, Tryd.results9, go_sem, r0, r1, r2, r3, r4]) rfl ?_
      rw [hRe.out]
      refine ⟨_, _, _, _, _, _, _, _, _, rfl, (fun t q e => ?_), hB4.trans (put5_below (Nat.le_refl _) _ _ _ _ _)⟩
      cases e
      exact rep_put hsa (by omega) _ _ _ _ _
end Go.Proofs.YtjmneiepcbpdpaaDoor
