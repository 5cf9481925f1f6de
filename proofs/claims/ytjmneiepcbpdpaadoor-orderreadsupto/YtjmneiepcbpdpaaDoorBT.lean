import Derived.Test.YtjmneiepcbpdpaaDoorBP
import Derived.Test.YtjmneiepcbpdpaaDoorBR
import Derived.Test.YtjmneiepcbpdpaaDoorH1
/-! FromBytes of every bytes; bytes that were handed in. -/
namespace Go.Proofs.YtjmneiepcbpdpaaDoor
open Go Go.RowKit

theorem obj_ok (r g cap : Nat) (l : List UInt8) : ObjOk r g cap l := fun d val hd hv hno hle q w hB hA hq => obj_code r g cap q d l val w (hid_e hB) (hid_e hA) hq hd (hid_e hv) (hid_e hno) (hid_e hle)
theorem from_all (g cap : Nat) (l : List UInt8) (w : World) (hrow : RowB w g l) (hcap : l.length ≤ cap) (hcm : cap ≤ 9223372036854775807) (hlen : l.length ≤ 1000000000) (hU : Lib.Utf8Tabs 1 2 w) (h3 : 3 ≤ w.heap.size) :
    Calls Tryd.prog 9 #[.slice (some ⟨g, 0, none⟩) l.length cap] w (FromPost w (fromR l)) := from_code g cap l w hrow hcap hcm hlen hU h3 (hid_e (fun r => obj_ok r g cap l))
theorem own_row {w : World} {lo g cap : Nat} {l : List UInt8} (h : w.ownsRow lo 5 1 (.slice (some ⟨g, 0, none⟩) l.length cap) l.length (Lib.byteCells l)) : RowB w g l := by
  refine ⟨(ownsRow_ge h (g := g) rfl).2, fun j hj => ?_⟩
  have hl := own_lie h j _ (List.getElem?_eq_getElem hj)
  rw [Nat.zero_add] at hl
  rw [hl]
  unfold Lib.byteCells
  rw [List.getElem?_map, List.getElem?_eq_getElem hj]
  rfl
theorem own_from {lo : Nat} {v : Value} {l : List UInt8} {w : World} (h : w.ownsRow lo 5 1 v l.length (Lib.byteCells l)) {g : Nat} (hg : v.ownBlock = some g) (hlen : l.length ≤ 1000000000) (hU : Lib.Utf8Tabs 1 2 w) (h3 : 3 ≤ w.heap.size) :
    Calls Tryd.prog 9 #[v] w (FromPost w (fromR l)) := by
  rcases h.2 with ⟨hv, h0⟩ | ⟨g', cap, cur, hv, _⟩
  · subst hv; cases hg
  · subst hv
    have hc := row_cap h
    exact from_all g' cap l w (own_row h) hc.1 hc.2 hlen hU h3
/-- Bytes that were handed in. -/
structure BArg (w : World) (a : Option Addr) (c : Nat) (l : List UInt8) : Prop where
  cap : l.length ≤ c ∧ c ≤ 9223372036854775807
  nil : a = none → c = 0
  lie : l = [] ∨ ∃ g o, a = some ⟨g, o, none⟩ ∧ g < w.heap.size ∧ Lie w g o l
theorem BArg.keep {w w' : World} {a : Option Addr} {c : Nat} {l : List UInt8} (h : BArg w a c l) (hb : Below w.heap.size w w') : BArg w' a c l :=
  ⟨h.cap, h.nil, h.lie.imp id (fun ⟨g, o, e, hg, hl⟩ => ⟨g, o, e, Nat.lt_of_lt_of_le hg hb.size, fun j b hj => (hb.cell (p := ⟨g, o + j, none⟩) hg).trans (hl j b hj)⟩)⟩
theorem BArg.conv {w : World} {a : Option Addr} {c : Nat} {l : List UInt8} (h : BArg w a c l) : (convert 26 9 (.slice a l.length c)).run Tryd.prog w = .ok (.string ⟨l.toArray⟩) w := by
  rcases h.lie with rfl | ⟨g, o, rfl, hg, hl⟩
  · cases a with
    | none =>
      obtain rfl := h.nil rfl
      rw [List.length_nil, run_convert_bytes_string w 26 9 5 none 0 0 Tryd.underlying26 Tryd.underlying5 Tryd.underlying9]
      rfl
    | some ad => exact run_convert_bytes_back w 26 9 5 ad c [] Tryd.underlying26 Tryd.underlying5 Tryd.underlying9 (fun j hj => absurd hj (by simp))
  · refine run_convert_bytes_back w 26 9 5 ⟨g, o, none⟩ c l Tryd.underlying26 Tryd.underlying5 Tryd.underlying9 (fun j hj => ?_)
    rw [add_off]
    exact hl j _ (List.getElem?_eq_getElem hj)
theorem BArg.src {w : World} {a : Option Addr} {c : Nat} {l : List UInt8} (h : BArg w a c l) : l = [] ∨ ∃ g o, a = some ⟨g, o, none⟩ ∧ Lie w g o l := h.lie.imp id (fun ⟨g, o, e, _, hl⟩ => ⟨g, o, e, hl⟩)
theorem owns_none (w : World) : (w.alloc (.cells #[] 5)).ownsRow w.heap.size 5 1 (.slice (some ⟨w.heap.size, 0, none⟩) 0 0) ([] : List UInt8).length (Lib.byteCells []) :=
  ⟨rfl, .inr ⟨w.heap.size, 0, #[], rfl, Nat.le_refl _, heap_alloc_new w _, Nat.le_refl _, Nat.zero_le _, rfl, rfl⟩⟩
/-- Bytes behind bytes, none of them too, in a region of one order. -/
theorem list_append_bytes {ops : Array Oper} {rest : List Oper} {o : Oper} {a : Act} {Q : Exit → Act → World → Prop} (w : World) (hgd : o.guard = none) (s x : Operand)
    (ho : o.op = .call { callee := .builtin .append, args := #[s, x], argTypes := #[26, 26] }) (base : Nat) (v : Value) (acc : List UInt8) (hs : a.eval s = v) (hown : w.ownsRow base 5 1 v acc.length (Lib.byteCells acc))
    (ax : Option Addr) (m c : Nat) (add : List UInt8) (hm : add.length = m) (hx : a.eval x = .slice ax m c) (hsrc : add = [] ∨ ∃ g o, ax = some ⟨g, o, none⟩ ∧ Lie w g o add) (hb : acc.length + m ≤ 100000000000) (hbase : base ≤ w.heap.size)
    (h : ∀ kv w', w'.ownsRow base 5 1 kv (acc ++ add).length (Lib.byteCells (acc ++ add)) → w.grownBy w' v.ownBlock → (kv.ownBlock = v.ownBlock ∨ ∃ g, kv.ownBlock = some g ∧ w.heap.size ≤ g) → wpList Tryd.prog ops Q rest (a.put o.dst kv) w') : wpList Tryd.prog ops Q (o :: rest) a w :=
  wpList_plain hgd fun K hK => by
    have hw : Region.wanted o (yielded ops a.tmps) = true := by simp [Region.wanted, hgd]
    have := step_append_bytes (ops := ops) (E := True) (K := K) (Q := Q) w hgd s x ho base v acc hs hown ax m c add hm hx hsrc hb hbase (fun kv w' h1 h2 h3 => hK _ _ (h kv w' h1 h2 h3))
    rw [if_pos hw] at this
    exact this
end Go.Proofs.YtjmneiepcbpdpaaDoor
/-! FromBytes of every bytes: its answer lies in new memory, and is the zero value where it fails. -/
namespace Go.Proofs.YtjmneiepcbpdpaaDoor
open Go Go.RowKit

def flatT : Tr := .node 0 0 noS [] []
def outT : Rd Tr → Tr
  | .ok t _ => t
  | .no _ _ => flatT
def OutPost (w : World) (R : Rd Tr) (x : Ending) (w' : World) : Prop :=
  ∃ k x0 s an ln cn ai li ci, x = .returned (.tuple #[.agg #[.int .i64 k, .int .i64 x0, .string s, .slice an ln cn, .slice ai li ci], .int .i64 R.code, .int .i64 (R.place : Int)]) ∧ Seen w' (fun j => w.heap.size ≤ j) (outT R) (five k x0 s (.slice an ln cn) (.slice ai li ci)) ∧ Below w.heap.size w w'
set_option maxHeartbeats 4000000 in
set_option maxRecDepth 100000 in
theorem out_code (g cap : Nat) (l : List UInt8) (w : World) (hrow : RowB w g l) (hcap : l.length ≤ cap) (hcm : cap ≤ 9223372036854775807) (hlen : l.length ≤ 1000000000) (hU : Lib.Utf8Tabs 1 2 w) (h3 : 3 ≤ w.heap.size) :
    Calls Tryd.prog 9 #[.slice (some ⟨g, 0, none⟩) l.length cap] w (OutPost w (fromR l)) := by
  have hgl := hrow.lt
  have hFX : Fr (fun _ => False) w ((w.alloc (.cells #[.int .i64 0, .int .i64 0, .string ⟨#[]⟩, .slice none 0 0, .slice none 0 0] 25)).alloc (.cells #[.slice (some ⟨g, 0, none⟩) l.length cap, .int .i64 0] 45)) := ((Fr.refl _ w).alloc _).alloc _
  have n1 := new1 w (.cells #[.int .i64 0, .int .i64 0, .string ⟨#[]⟩, .slice none 0 0, .slice none 0 0] 25) (.cells #[.slice (some ⟨g, 0, none⟩) l.length cap, .int .i64 0] 45)
  have n2 := new2 w (.cells #[.int .i64 0, .int .i64 0, .string ⟨#[]⟩, .slice none 0 0, .slice none 0 0] 25) (.cells #[.slice (some ⟨g, 0, none⟩) l.length cap, .int .i64 0] 45)
  obtain ⟨R, hR⟩ : ∃ R, Hid (fromR l = R) := ⟨_, hid_e rfl⟩
  rw [hR.out]
  go_enter Tryd.func9, Tryd.ntmps9
  go_wp2_with fail
  generalize (w.alloc (.cells #[.int .i64 0, .int .i64 0, .string ⟨#[]⟩, .slice none 0 0, .slice none 0 0] 25)).alloc (.cells #[.slice (some ⟨g, 0, none⟩) l.length cap, .int .i64 0] 45) = X at hFX n1 n2 ⊢
  have hA : At X (w.heap.size + 1) g cap l.length 0 := n2
  have hBs : Base X (w.heap.size + 1) g cap l := ⟨hA.lt, by omega, by omega, hrow.fr hFX (fun e => e), hcap, hcm, hlen, utf_keep hU (fun k hk => hFX.block k (by omega) (fun e => e))⟩
  have hv := hid_e (val_ok (obj_ok (w.heap.size + 1) g cap l) 64 0 rfl 0 X hBs hA (Nat.zero_le _))
  obtain ⟨V, hV⟩ : ∃ V, Hid (valR l 64 0 = V) := ⟨_, hid_e rfl⟩
  rw [hV.out] at hv
  go_fit hv.out
  clear hv
  rintro e1 Y ⟨k2, x2, s2, an2, ln2, cn2, ai2, li2, ci2, rfl, hsn, hA2, hF2⟩
  have hXs : w.heap.size + 1 < X.heap.size := hA.lt
  have n3 := (hF2.block w.heap.size (by omega) (by omega)).trans n1
  have hB2 : Below w.heap.size w Y := (hFX.below (Nat.le_refl _) (fun _ e => e.elim)).trans (hF2.below (by omega) (fun i e => by omega))
  have hYs := hF2.size
  have n4 := (Below.heap_alloc Y (.cells #[.int .i64 k2, .int .i64 x2, .string s2, .slice an2 ln2 cn2, .slice ai2 li2 ci2] 25) w.heap.size (by omega)).trans n3
  have hA4 := hA2.keep (S := fun _ => False) ((Fr.refl _ Y).alloc (.cells #[.int .i64 k2, .int .i64 x2, .string s2, .slice an2 ln2 cn2, .slice ai2 li2 ci2] 25)) (fun e => e)
  have hB4 := hB2.alloc (by omega) (.cells #[.int .i64 k2, .int .i64 x2, .string s2, .slice an2 ln2 cn2, .slice ai2 li2 ci2] 25)
  obtain ⟨z0, z1, z2, z3, z4, zf⟩ := row_cells n4
  have zf0 := zf 0; have zf1 := zf 1; have zf2 := zf 2; have zf3 := zf 3; have zf4 := zf 4
  obtain ⟨-, u1, -⟩ := two_cells hA4
  clear zf
  cases V with
  | no e q =>
    have b1 : (Rd.no e q : Rd Tr).code = e := rfl
    have b2 : (Rd.no e q : Rd Tr).place = q := rfl
    have he : (e == 0) = false := by simpa using val_no _ _ _ _ hV.out
    have hRe : Hid (R = .no e q) := by rw [Hid, ← hR.out]; unfold fromR; rw [hV.out]
    go_wp2_with fail
    generalize Y.alloc (.cells #[.int .i64 k2, .int .i64 x2, .string s2, .slice an2 ln2 cn2, .slice ai2 li2 ci2] 25) = Z at n4 hA4 hB4 z0 z1 z2 z3 z4 zf0 zf1 zf2 zf3 zf4 u1 ⊢
    go_region
    all_goals
      go_wp2_with fail
      have hr5 := put5_cells n4 (.int .i64 0) (.int .i64 0) (.string ⟨#[]⟩) (.slice none 0 0) (.slice none 0 0)
      have r0 := hr5 0; have r1 := hr5 1; have r2 := hr5 2; have r3 := hr5 3; have r4 := hr5 4
      clear hr5
      refine bodyPost_ret (v := .tuple #[.agg #[.int .i64 0, .int .i64 0, .string ⟨#[]⟩, .slice none 0 0, .slice none 0 0], .int .i64 e, .int .i64 (q : Int)]) (by simp [results, Tryd.results9, go_sem, r0, r1, r2, r3, r4]) rfl ?_
      rw [hRe.out]
      exact ⟨_, _, _, _, _, _, _, _, _, rfl, seen_flat _ _ _ _ _, below_drew (hB4.trans (put5_below (Nat.le_refl _) _ _ _ _ _))⟩
  | ok t q =>
    have b1 : (Rd.ok t q : Rd Tr).code = 0 := rfl
    have b2 : (Rd.ok t q : Rd Tr).place = q := rfl
    have hql := (val_sound 64 0 rfl 0 t q hV.out).le
    by_cases hq : q < l.length
    · have hq1 : (q : Int) < (l.length : Int) := by omega
      have hRe : Hid (R = .no 4 q) := by rw [Hid, ← hR.out]; unfold fromR; rw [hV.out]; simp only; rw [if_pos hq]
      go_wp2_with fail
      generalize Y.alloc (.cells #[.int .i64 k2, .int .i64 x2, .string s2, .slice an2 ln2 cn2, .slice ai2 li2 ci2] 25) = Z at n4 hA4 hB4 z0 z1 z2 z3 z4 zf0 zf1 zf2 zf3 zf4 u1 ⊢
      go_region
      all_goals
        go_wp2_with fail
        have hr5 := put5_cells n4 (.int .i64 0) (.int .i64 0) (.string ⟨#[]⟩) (.slice none 0 0) (.slice none 0 0)
        have r0 := hr5 0; have r1 := hr5 1; have r2 := hr5 2; have r3 := hr5 3; have r4 := hr5 4
        clear hr5
        refine bodyPost_ret (v := .tuple #[.agg #[.int .i64 0, .int .i64 0, .string ⟨#[]⟩, .slice none 0 0, .slice none 0 0], .int .i64 4, .int .i64 (q : Int)]) (by simp [results, Tryd.results9, go_sem, r0, r1, r2, r3, r4]) rfl ?_
        rw [hRe.out]
        exact ⟨_, _, _, _, _, _, _, _, _, rfl, seen_flat _ _ _ _ _, below_drew (hB4.trans (put5_below (Nat.le_refl _) _ _ _ _ _))⟩
    · have hq1 : ¬ ((q : Int) < (l.length : Int)) := by omega
      have hRe : Hid (R = .ok t 0) := by rw [Hid, ← hR.out]; unfold fromR; rw [hV.out]; simp only; rw [if_neg hq]
      have hsa := (hsn t q rfl).keep ((Below.refl _ Y).alloc (Nat.le_refl _) (.cells #[.int .i64 k2, .int .i64 x2, .string s2, .slice an2 ln2 cn2, .slice ai2 li2 ci2] 25))
      go_wp2_with fail
      have hr5 := put5_cells n4 (.int .i64 k2) (.int .i64 x2) (.string s2) (.slice an2 ln2 cn2) (.slice ai2 li2 ci2)
      have r0 := hr5 0; have r1 := hr5 1; have r2 := hr5 2; have r3 := hr5 3; have r4 := hr5 4
      clear hr5
      refine bodyPost_ret (v := .tuple #[.agg #[.int .i64 k2, .int .i64 x2, .string s2, .slice an2 ln2 cn2, .slice ai2 li2 ci2], .int .i64 0, .int .i64 0]) (by simp [results, Tryd.results9, go_sem, r0, r1, r2, r3, r4]) rfl ?_
      rw [hRe.out]
      exact ⟨_, _, _, _, _, _, _, _, _, rfl, seen_put hsa (by omega) _ _ _ _ _, hB4.trans (put5_below (Nat.le_refl _) _ _ _ _ _)⟩
end Go.Proofs.YtjmneiepcbpdpaaDoor
