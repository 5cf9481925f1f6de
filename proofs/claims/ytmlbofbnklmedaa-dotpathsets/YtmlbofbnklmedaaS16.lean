import Derived.Test.YtmlbofbnklmedaaS15
import Derived.Test.YtmlbofbnklmedaaP4
/-! Unset, of every value and path. -/
namespace Go.Proofs.Ytmlbofbnklmedaa
open Go Go.RowKit

theorem without_any (k x : Int) (tx : ByteArray) (ns : List ByteArray) (its : List Tr) (an : Option Addr) (ln cn : Nat) (ai : Option Addr) (li ci : Nat) (sg : ByteArray) (m : Nat) (hk : k = 5 ∨ k = 6) (hm : m < (keepIts k ns its).length) (hb : (its.length + 1) * 80 ≤ 140737488355328) (S : Nat → Prop) (w0 w : World) (h0 : Below w0.heap.size w0 w) (hS : ∀ k, k < w0.heap.size → S k)
    (hV : VRep w0 (.node k x tx ns its) (five k x tx (.slice an ln cn) (.slice ai li ci))) :
    Calls Try.prog 33 #[.agg #[.int .i64 k, .int .i64 x, .string tx, .slice an ln cn, .slice ai li ci, .string sg, .int .i64 m]] w (WithPost w S (outT k ns its m)) := by
  obtain ⟨xs, hR, hA⟩ := anew_all k x tx ns its _ hk (by omega) w0 hV
  have hA' : ∀ W, Below w.heap.size w W → Calls Try.prog 51 #[.agg #[.int .i64 k, .int .i64 x, .string tx, .slice an ln cn, .slice ai li ci]] W (Anew W k (keepIts k ns its).length (strs (keepNs k ns its)) xs) := fun W hW => hA W (h0.trans (hW.mono h0.size))
  rcases hk with rfl | rfl
  · rw [keep5] at hA'
    have e : keepIts 5 ns its = its := by unfold keepIts; rw [if_neg (by decide)]
    rw [e] at hA' hR hm
    exact without5 x tx an ln cn ai li ci sg m _ hm its rfl xs S w0 w h0 hS hR hA'
  · exact without6 x tx an ln cn ai li ci sg m _ hm (keepNs 6 ns its) (keep6 ns its) (keepIts 6 ns its) rfl xs S w0 w h0 hS hR hA'
theorem rdel_down : (l : List ByteArray) → (t x : Tr) → getT t l = some x → l ≠ [] → ∃ ini la, (downT t l).2 = ini ++ [la] ∧ (downT t l).1 = 0 ∧ la.2.2 < (keepIts la.1.kind la.1.names la.1.items).length ∧ rdelT l t = upS ini (outT la.1.kind la.1.names la.1.items la.2.2)
  | [], _, _, _, h => absurd rfl h
  | s :: r, t, x, h, _ => by
    by_cases hh : hasT t s
    · obtain ⟨i, hi, hlt⟩ := placeB_true hh
      have hu : t.items[i]? = some t.items[i] := List.getElem?_eq_getElem hlt
      have hit : itemOr t s = t.items[i] := by unfold itemOr; rw [placeT_some hh hi]; simp [List.getD_eq_getElem?_getD, hlt]
      have hg : getT t.items[i] r = some x := by rw [getT_some hh hi hu] at h; exact h
      have h0 := down_get r _ x hg
      have hd : downT t (s :: r) = (0, (t, s, i) :: (downT t.items[i] r).2) := by
        rw [downT, if_pos (show placeB t.kind t.names t.items.length s = true from hh), hi, Int.toNat_natCast, hu]
        simp only
        rw [if_pos h0]
      have hm : i < (keepIts t.kind t.names t.items).length := (place_keep hh hi).2
      cases r with
      | nil =>
        refine ⟨[], (t, s, i), by rw [hd, downT]; rfl, by rw [hd], hm, ?_⟩
        show delT t s = outT t.kind t.names t.items i
        unfold delT
        rw [hi, Int.toNat_natCast]
      | cons q r =>
        obtain ⟨ini, la, e1, _, e3, e4⟩ := rdel_down (q :: r) _ x hg (by simp)
        refine ⟨(t, s, i) :: ini, la, by rw [hd, e1]; rfl, by rw [hd], e3, ?_⟩
        rw [rdelT, hit, e4]
        unfold putT
        rw [placeT_some hh hi]
        rfl
    · rw [get_not hh] at h; cases h
theorem turnCells_take (ts : List Trn) (m : Nat) : turnCells (ts.take m) = (turnCells ts).take (m * 7) := by
  induction ts generalizing m with
  | nil => simp [turnCells]
  | cons t ts ih =>
    cases m with
    | zero => simp [turnCells]
    | succ m =>
      have hc : t.cells.length = 7 := rfl
      simp only [turnCells, List.take_succ_cons, List.flatMap_cons] at *
      rw [ih m, List.take_append, hc, List.take_of_length_le (l := t.cells) (by omega), show (m + 1) * 7 - 7 = m * 7 by omega]
theorem seen_le {W : World} {n m : Nat} {t : Tr} {cs : List Value} (h : Seen W (fun k => k < n ∨ m ≤ k) t cs) : Seen W (fun k => k < n ∨ (m ≤ k ∧ k < W.heap.size)) t cs := fun W' a => h W' ⟨a.1, fun p u hp hc => a.2 p u (hp.imp id (fun h => ⟨h, cell_lt hc⟩)) hc⟩
/-- What Unset answers. -/
def unsB (t : Tr) (l : List ByteArray) : Bool := (getT t l).isSome && !l.isEmpty
def unsR (t : Tr) (l : List ByteArray) : Tr := if unsB t l = true then rdelT l t else t
def UnsetPost (w : World) (b : Bool) (R : Tr) (e : Ending) (w' : World) : Prop := Below w.heap.size w w' ∧ ∃ cs, e = .returned (.tuple #[.agg cs.toArray, .bool b]) ∧ VRep w' R cs
set_option maxHeartbeats 4000000 in
set_option maxRecDepth 100000 in
theorem unset_no (t : Tr) (k x : Int) (s : ByteArray) (an : Option Addr) (ln cn : Nat) (ai : Option Addr) (li ci : Nat) (a : Option Addr) (c : Nat) (l : List ByteArray) (w : World) (hV : VRep w t (five k x s (.slice an ln cn) (.slice ai li ci))) (hP : Reads w (.slice a l.length c) l) (hl : l.length ≤ 1000000) (hS : Hid (Sized l)) (hno : unsB t l = false) :
    Calls Try.prog 16 #[.agg #[.int .i64 k, .int .i64 x, .string s, .slice an ln cn, .slice ai li ci], .slice a l.length c] w (UnsetPost w false t) := by
  have hB2 : ∀ p1 p2, Below w.heap.size w ((w.alloc p1).alloc p2) := fun p1 p2 => ((Below.refl _ w).alloc (Nat.le_refl _) p1).alloc (by simp) p2
  have hgt := fun p1 p2 => hid_of (get_any t _ _ l ((w.alloc p1).alloc p2) (VRep.keep (hB2 p1 p2) _ _ hV) (hP.keep (hB2 p1 p2)) (by omega) hS)
  have hn1 := fun p1 p2 => new1 w p1 p2
  have hn2 := fun p1 p2 => new2 w p1 p2
  have hl0 : getT t l = none ∨ (l = [] ∧ getT t l = some t) := by
    cases h : getT t l with
    | none => exact .inl rfl
    | some u =>
      right
      unfold unsB at hno
      rw [h] at hno
      have : l = [] := by simpa using hno
      subst this
      exact ⟨rfl, by rw [getT] at h; exact h.symm⟩
  replace hV := hid_of hV
  go_enter Try.func16, Try.ntmps16
  go_wp2_with fail
  refine (hgt _ _).out.mono ?_
  rintro e w3 ⟨hb3, hg⟩
  have hBx : Row5 w3 w.heap.size (.int .i64 k) (.int .i64 x) (.string s) (.slice an ln cn) (.slice ai li ci) := row5_of ((hb3.block _ (by simp; omega)).trans (hn1 _ _))
  have hRs : Row5 w3 (w.heap.size + 1) (.int .i64 0) (.int .i64 0) (.string ⟨#[]⟩) (.slice none 0 0) (.slice none 0 0) := row5_of ((hb3.block _ (by simp)).trans (hn2 _ _))
  have hB3 : Below w.heap.size w w3 := (hB2 _ _).trans (hb3.mono (by simp; omega))
  have hs3 : w.heap.size + 2 ≤ w3.heap.size := by have := hb3.size; simp at this; omega
  clear hgt hB2 hn1 hn2 hb3
  have hfin : ∀ o, Hid (Below w.heap.size w (put5 (w3.alloc o) (w.heap.size + 1) (.int .i64 k) (.int .i64 x) (.string s) (.slice an ln cn) (.slice ai li ci))) := fun o => hid_of ((hB3.alloc (by omega) o).trans (put5_below (by omega) _ _ _ _ _))
  have z0 := fun o => (hBx.alloc o).1.1; have z1 := fun o => (hBx.alloc o).2.1.1; have z2 := fun o => (hBx.alloc o).2.2.1.1; have z3 := fun o => (hBx.alloc o).2.2.2.1.1; have z4 := fun o => (hBx.alloc o).2.2.2.2.1
  have q0 := fun o => (hRs.alloc o).1.1; have q1 := fun o => (hRs.alloc o).2.1.1; have q2 := fun o => (hRs.alloc o).2.2.1.1; have q3 := fun o => (hRs.alloc o).2.2.2.1.1; have q4 := fun o => (hRs.alloc o).2.2.2.2.1
  have g0 := fun o => (hRs.alloc o).1.2; have g1 := fun o => (hRs.alloc o).2.1.2; have g2 := fun o => (hRs.alloc o).2.2.1.2; have g3 := fun o => (hRs.alloc o).2.2.2.1.2; have g4 := fun o => (hRs.alloc o).2.2.2.2.2
  rcases hl0 with h0 | ⟨rfl, h0⟩
  · rw [h0] at hg
    subst hg
    unfold zeroV
    replace hRs := hid_of hRs; replace hBx := hid_of hBx; replace hB3 := hid_of hB3
    clear hno h0
    go_wp2_with fail
    have hR7 := (hRs.out.alloc (.cells #[.int .i64 0, .int .i64 0, .string ⟨#[]⟩, .slice none 0 0, .slice none 0 0] 25)).put (.int .i64 k) (.int .i64 x) (.string s) (.slice an ln cn) (.slice ai li ci)
    unfold put5 at hR7
    obtain ⟨⟨r0, -⟩, ⟨r1, -⟩, ⟨r2, -⟩, ⟨r3, -⟩, ⟨r4, -⟩⟩ := hR7
    refine bodyPost_ret (v := .tuple #[.agg #[.int .i64 k, .int .i64 x, .string s, .slice an ln cn, .slice ai li ci], .bool false]) (by simp [results, Try.results16, go_sem, r0, r1, r2, r3, r4]) rfl ?_
    clear r0 r1 r2 r3 r4
    exact ⟨(hfin _).out, five k x s (.slice an ln cn) (.slice ai li ci), rfl, VRep.keep (hfin _).out _ _ hV.out⟩
  · rw [h0] at hg
    obtain ⟨cs9, rfl, hV9⟩ := hg
    obtain ⟨k9, x9, s9, an9, ln9, cn9, ai9, li9, ci9, rfl⟩ := vrep_five hV9
    simp only [five]
    replace hRs := hid_of hRs; replace hBx := hid_of hBx; replace hB3 := hid_of hB3
    clear hno h0 hV9
    go_wp2_with fail
    have hR7 := (hRs.out.alloc (.cells #[.int .i64 k9, .int .i64 x9, .string s9, .slice an9 ln9 cn9, .slice ai9 li9 ci9] 25)).put (.int .i64 k) (.int .i64 x) (.string s) (.slice an ln cn) (.slice ai li ci)
    unfold put5 at hR7
    obtain ⟨⟨r0, -⟩, ⟨r1, -⟩, ⟨r2, -⟩, ⟨r3, -⟩, ⟨r4, -⟩⟩ := hR7
    refine bodyPost_ret (v := .tuple #[.agg #[.int .i64 k, .int .i64 x, .string s, .slice an ln cn, .slice ai li ci], .bool false]) (by simp [results, Try.results16, go_sem, r0, r1, r2, r3, r4]) rfl ?_
    clear r0 r1 r2 r3 r4
    exact ⟨(hfin _).out, five k x s (.slice an ln cn) (.slice ai li ci), rfl, VRep.keep (hfin _).out _ _ hV.out⟩
set_option maxHeartbeats 4000000 in
set_option maxRecDepth 100000 in
theorem unset_yes (t : Tr) (k x : Int) (s : ByteArray) (an : Option Addr) (ln cn : Nat) (ai : Option Addr) (li ci : Nat) (a : Option Addr) (c : Nat) (l : List ByteArray) (w : World) (hV : VRep w t (five k x s (.slice an ln cn) (.slice ai li ci))) (hP : Reads w (.slice a l.length c) l) (hl : l.length ≤ 1000000) (hS : Hid (Sized l)) (hb : ∀ st ∈ (downT t l).2, (st.1.items.length + 1) * 80 ≤ 140737488355328) (hyes : unsB t l = true) :
    Calls Try.prog 16 #[.agg #[.int .i64 k, .int .i64 x, .string s, .slice an ln cn, .slice ai li ci], .slice a l.length c] w (UnsetPost w true (rdelT l t)) := by
  have hB2 : ∀ p1 p2, Below w.heap.size w ((w.alloc p1).alloc p2) := fun p1 p2 => ((Below.refl _ w).alloc (Nat.le_refl _) p1).alloc (by simp) p2
  have hgt := fun p1 p2 => hid_of (get_any t _ _ l ((w.alloc p1).alloc p2) (VRep.keep (hB2 p1 p2) _ _ hV) (hP.keep (hB2 p1 p2)) (by omega) hS)
  have hn1 := fun p1 p2 => new1 w p1 p2
  have hn2 := fun p1 p2 => new2 w p1 p2
  obtain ⟨u, hu, hne⟩ : ∃ u, getT t l = some u ∧ l ≠ [] := by
    unfold unsB at hyes
    cases h : getT t l with
    | none => rw [h] at hyes; cases hyes
    | some u => exact ⟨u, rfl, fun e => by subst e; simp at hyes⟩
  obtain ⟨ini, la, e1, e2, e3, e4⟩ := rdel_down l t u hu hne
  have hlen0 : ((l.length : Int) == 0) = false := by
    have : l.length ≠ 0 := fun e => hne (List.eq_nil_of_length_eq_zero e)
    simpa using this
  have hdn := fun W (hW : Below w.heap.size w W) => hid_of (down_any t _ _ l w W hW hV (hP.keep hW) hl hS)
  rw [hu] at hgt
  replace hb := hid_of hb; replace e1 := hid_of e1; replace e2 := hid_of e2; replace e3 := hid_of e3; replace e4 := hid_of e4
  clear hV hP hyes hne hu
  go_enter Try.func16, Try.ntmps16
  go_wp2_with fail
  refine (hgt _ _).out.mono ?_
  rintro e w3 ⟨hb3, cs3, rfl, hV3⟩
  obtain ⟨k9, x9, s9, an9, ln9, cn9, ai9, li9, ci9, rfl⟩ := vrep_five hV3
  simp only [five]
  have hBx : Row5 w3 w.heap.size (.int .i64 k) (.int .i64 x) (.string s) (.slice an ln cn) (.slice ai li ci) := row5_of ((hb3.block _ (by simp; omega)).trans (hn1 _ _))
  have hRs : Row5 w3 (w.heap.size + 1) (.int .i64 0) (.int .i64 0) (.string ⟨#[]⟩) (.slice none 0 0) (.slice none 0 0) := row5_of ((hb3.block _ (by simp)).trans (hn2 _ _))
  have hB3 : Below w.heap.size w w3 := (hB2 _ _).trans (hb3.mono (by simp; omega))
  have hs3 : w.heap.size + 2 ≤ w3.heap.size := by have := hb3.size; simp at this; omega
  clear hgt hB2 hn1 hn2 hb3 hV3
  have hdn1 := fun o => hdn (w3.alloc o) (hB3.alloc (by omega) o)
  clear hdn
  have z0 := fun o => (hBx.alloc o).1.1; have z1 := fun o => (hBx.alloc o).2.1.1; have z2 := fun o => (hBx.alloc o).2.2.1.1; have z3 := fun o => (hBx.alloc o).2.2.2.1.1; have z4 := fun o => (hBx.alloc o).2.2.2.2.1
  replace hRs := hid_of hRs; replace hBx := hid_of hBx; replace hB3 := hid_of hB3; replace hs3 := hid_of hs3
  go_wp2_with fail
  refine (hdn1 _).out.mono ?_
  rintro e w5 ⟨hb5, ⟨hd0, -⟩ | ⟨-, tv, ts, rfl, hown, hts, hok⟩⟩
  · exact absurd e2.out hd0
  · have hB5 : Below w.heap.size w w5 := hB3.out.trans ((below_box hb5).mono hB3.out.size)
    have hRs5 : Row5 w5 (w.heap.size + 1) (.int .i64 0) (.int .i64 0) (.string ⟨#[]⟩) (.slice none 0 0) (.slice none 0 0) := (hRs.out.alloc _).below hb5
    have hs5 : w3.heap.size + 1 ≤ w5.heap.size := by have := hb5.size; simp at this; omega
    rw [e1.out] at hts
    have hn : ts.length = ini.length + 1 := by have := congrArg List.length hts; simpa using this
    obtain ⟨g, cap, rfl, hgg, hgl⟩ := hown.form (by omega)
    have hlt : ini.length < ts.length := by omega
    obtain ⟨T, hT⟩ : ∃ T, ts[ini.length]? = some T := ⟨_, List.getElem?_eq_getElem hlt⟩
    have hTs : T.st = la := by
      have h1 : (ts.map Trn.st)[ini.length]? = some T.st := by rw [List.getElem?_map, hT]; rfl
      rw [hts] at h1
      simpa using h1.symm
    have hTm : T ∈ ts := List.mem_of_getElem? hT
    have hOk := hok T hTm
    have hbT : (T.its.length + 1) * 80 ≤ 140737488355328 := by
      have := hb.out la (by rw [e1.out]; simp)
      rw [← hTs] at this
      exact this
    have hmT : T.m < (keepIts T.k T.ns T.its).length := by
      have := e3.out
      rw [← hTs] at this
      exact this
    have hini : (ts.take ini.length).map Trn.st = ini := by rw [List.map_take, hts]; simp
    have hcell := fun j u (hj : T.cells[j]? = some u) => row_cell hown _ u (turn_cells hT j u hj)
    have m0 := hcell 0 _ rfl; have m1 := hcell 1 _ rfl; have m2 := hcell 2 _ rfl; have m3 := hcell 3 _ rfl; have m4 := hcell 4 _ rfl; have m5 := hcell 5 _ rfl; have m6 := hcell 6 _ rfl
    simp only [Nat.add_zero] at m0
    have hown2 := hid_of (own_less hown (show ini.length ≤ ts.length by omega))
    rw [← turnCells_take] at hown2
    have hlen2 : (ts.take ini.length).length = ini.length := by rw [List.length_take]; omega
    have hcapx : ts.length ≤ cap ∧ cap ≤ 9223372036854775807 := by
      rcases hown.2 with ⟨h, _⟩ | ⟨g', cap', cur, hv, _, _, h1, h2, _⟩
      · cases h
      · cases hv; unfold maxLen at h2; exact ⟨h1, by omega⟩
    have hwo := hid_of (without_any T.k T.x T.tx T.ns T.its T.an T.ns.length T.cn T.ai T.its.length T.ci T.sg T.m hOk.1 hmT hbT (· < w.heap.size) w w5.drew (below_drew hB5) (fun k h => h) hOk.2.2)
    have hok2 := hid_of (fun tn (h : tn ∈ ts.take ini.length) => (⟨hok tn (List.mem_of_mem_take h), by
      have := hb.out tn.st (by rw [e1.out, ← hts]; exact List.mem_map_of_mem (List.mem_of_mem_take h))
      exact this⟩ : tn.Ok w ∧ (tn.its.length + 1) * 80 ≤ 140737488355328))
    have hfinal : Hid (rdelT l t = upS ((ts.take ini.length).map Trn.st) (outT T.k T.ns T.its T.m)) := hid_of (by
      rw [hini, e4.out, ← hTs]; rfl)
    obtain ⟨Tk, Tx, Ttx, Tns, Tits, Tan, Tcn, Tai, Tci, Tsg, Tmm⟩ := T
    clear hcell hT hTs hTm hOk hbT hmT hini hts hok hown hdn1 z0 z1 z2 z3 z4 hb5 hb e1 e2 e3 e4 hlt
    replace hlen2 := hid_of hlen2
    rw [hn] at hcapx ⊢
    clear hn
    dsimp only at m0 m1 m2 m3 m4 m5 m6 hwo hfinal
    obtain ⟨N, hN⟩ : ∃ N, Hid (ini.length = N) := ⟨_, hid_of rfl⟩
    rw [hN.out] at m0 m1 m2 m3 m4 m5 m6 hcapx hown2 hlen2 hok2 hfinal ⊢
    clear hN
    have i1 : (0 : Int) ≤ (N : Int) := by omega
    have i2 : (N : Int) < ((N + 1 : Nat) : Int) := by omega
    have i3 : (N : Int) ≤ (cap : Int) := by omega
    have hsub : IntKind.i64.wrap (((N + 1 : Nat) : Int) - 1) = (N : Int) := by rw [IntKind.wrap_i64]; omega
    have hsub2 : IntKind.i64.wrap ((N : Int) + 1 - 1) = (N : Int) := by rw [IntKind.wrap_i64]; omega
    replace hRs5 := hid_of hRs5; replace hs5 := hid_of hs5
    go_wp2_with fail
    go_region_with (first
      | (go_at_call 33; go_fit hwo.out; clear hwo; rintro e w6 ⟨hb6, cs6, k6, x6, s6, an6, ln6, cn6, ai6, li6, ci6, rfl, rfl, hV6⟩; have hb56 : Below w5.heap.size w5 w6 := drew_below hb6; have hs56 := hb56.size; have hB6 : Below w.heap.size w w6 := hB5.trans (hb56.mono hB5.size); have hup := hid_of (up_turns w w6 hB6 (ts.take N) (.slice (some ⟨g, 0, none⟩) N cap) _ (by rw [hlen2.out]; exact ownsRow_below hown2.out hb56) hok2.out k6 x6 s6 an6 ln6 cn6 ai6 li6 ci6 _ (fun k => k < w.heap.size ∨ (w5.heap.size ≤ k ∧ k < w6.heap.size)) (fun k hk => by have := hB6.size; omega) (fun k hk => .inl hk) (seen_le hV6)); have hRs6 : Row5 w6 (w.heap.size + 1) (.int .i64 0) (.int .i64 0) (.string ⟨#[]⟩) (.slice none 0 0) (.slice none 0 0) := hRs5.out.below hb56; clear hb6 hb56 hV6 m0 m1 m2 m3 m4 m5 m6; simp only [five])
      | (go_at_call 29; go_fit hup.out; clear hup; rintro e w7 ⟨hb7, cs7, rfl, hV7⟩; obtain ⟨k7, x7, s7, an7, ln7, cn7, ai7, li7, ci7, hcs7⟩ := vrep_five hV7.rep; subst hcs7; have hRs7 := hRs6.below hb7; replace hV7 := hid_of hV7; obtain ⟨⟨z0, zf0⟩, ⟨z1, zf1⟩, ⟨z2, zf2⟩, ⟨z3, zf3⟩, ⟨z4, zf4⟩⟩ := id hRs7; simp only [five]))
    all_goals
      go_wp2_with fail
      have hR8 := hRs7.put (.int .i64 k7) (.int .i64 x7) (.string s7) (.slice an7 ln7 cn7) (.slice ai7 li7 ci7)
      unfold put5 at hR8
      obtain ⟨⟨r0, -⟩, ⟨r1, -⟩, ⟨r2, -⟩, ⟨r3, -⟩, ⟨r4, -⟩⟩ := hR8
      refine bodyPost_ret (v := .tuple #[.agg #[.int .i64 k7, .int .i64 x7, .string s7, .slice an7 ln7 cn7, .slice ai7 li7 ci7], .bool true]) (by simp [results, Try.results16, go_sem, r0, r1, r2, r3, r4]) rfl ?_
      clear r0 r1 r2 r3 r4
      have hs31 := hs3.out; have hs51 := hs5.out
      refine ⟨(hB6.trans (hb7.mono hB6.size)).trans (put5_below (by omega) _ _ _ _ _), five k7 x7 s7 (.slice an7 ln7 cn7) (.slice ai7 li7 ci7), rfl, ?_⟩
      rw [hfinal.out]
      exact hV7.out _ ⟨Nat.le_of_eq (put5_size _ _ _ _ _ _ _).symm, fun p u hp hc => (World.cell?_of_block (w := w7) (put5_far _ _ _ _ _ (show p.block ≠ w.heap.size + 1 from fun e => by
        have hp' : (p.block < w.heap.size ∨ (w5.heap.size ≤ p.block ∧ p.block < w6.heap.size)) ∨ w6.heap.size + 1 < p.block := hp
        omega))).trans hc⟩
theorem unset_any (t : Tr) (k x : Int) (s : ByteArray) (an : Option Addr) (ln cn : Nat) (ai : Option Addr) (li ci : Nat) (a : Option Addr) (c : Nat) (l : List ByteArray) (w : World) (hV : VRep w t (five k x s (.slice an ln cn) (.slice ai li ci))) (hP : Reads w (.slice a l.length c) l) (hl : l.length ≤ 1000000) (hS : Hid (Sized l)) (hb : ∀ st ∈ (downT t l).2, (st.1.items.length + 1) * 80 ≤ 140737488355328) :
    Calls Try.prog 16 #[.agg #[.int .i64 k, .int .i64 x, .string s, .slice an ln cn, .slice ai li ci], .slice a l.length c] w fun e w' => ∃ k x s an ln cn ai li ci, e = .returned (.tuple #[.agg #[.int .i64 k, .int .i64 x, .string s, .slice an ln cn, .slice ai li ci], .bool (unsB t l)]) ∧ VRep w' (unsR t l) (five k x s (.slice an ln cn) (.slice ai li ci)) ∧ Below w.heap.size w w' := by
  cases h : unsB t l with
  | false =>
    refine (unset_no t k x s an ln cn ai li ci a c l w hV hP hl hS h).mono ?_
    rintro e w' ⟨hbw, cs, rfl, hR⟩
    obtain ⟨k, x, s, an, ln, cn, ai, li, ci, rfl⟩ := vrep_five hR
    exact ⟨k, x, s, an, ln, cn, ai, li, ci, rfl, by unfold unsR; rw [h]; exact hR, hbw⟩
  | true =>
    refine (unset_yes t k x s an ln cn ai li ci a c l w hV hP hl hS hb h).mono ?_
    rintro e w' ⟨hbw, cs, rfl, hR⟩
    obtain ⟨k, x, s, an, ln, cn, ai, li, ci, rfl⟩ := vrep_five hR
    exact ⟨k, x, s, an, ln, cn, ai, li, ci, rfl, by unfold unsR; rw [h]; exact hR, hbw⟩
end Go.Proofs.Ytmlbofbnklmedaa
