import Derived.Test.YtmlbofbnklmedaaS9
import Derived.Deep.RegionWith
import Derived.Deep.DeepFit
/-! The way down, of every value and path. -/
namespace Go.Proofs.Ytmlbofbnklmedaa
open Go Go.RowKit

/-- The way down: the error, and the turns. -/
def downT : Tr → List ByteArray → Int × List (Tr × ByteArray × Nat)
  | _, [] => (0, [])
  | t, s :: r =>
    if placeB t.kind t.names t.items.length s = true then
      match t.items[(placeI t.kind t.names s).toNat]? with
      | none => (0, [])
      | some u => if (downT u r).1 = 0 then (0, (t, s, (placeI t.kind t.names s).toNat) :: (downT u r).2) else downT u r
    else if t.kind = 6 ∨ (t.kind = 5 ∧ idx s = some t.items.length) then (0, [(t, s, (keepIts t.kind t.names t.items).length)])
    else if t.kind = 5 ∧ (idx s).isSome = true then (22, []) else (21, [])
def Trn.tr (t : Trn) : Tr := .node t.k t.x t.tx t.ns t.its
def Trn.five (t : Trn) : List Value := Go.Proofs.Ytmlbofbnklmedaa.five t.k t.x t.tx (.slice t.an t.ns.length t.cn) (.slice t.ai t.its.length t.ci)
def Trn.st (t : Trn) : Tr × ByteArray × Nat := (t.tr, t.sg, t.m)
def Trn.Ok (w : World) (t : Trn) : Prop := (t.k = 5 ∨ t.k = 6) ∧ t.m ≤ (keepIts t.k t.ns t.its).length ∧ VRep w t.tr t.five
def turnCells (ts : List Trn) : List Value := ts.flatMap Trn.cells
theorem turnCells_len (ts : List Trn) : (turnCells ts).length = ts.length * 7 := by
  induction ts with
  | nil => rfl
  | cons t ts ih => simp only [turnCells, List.flatMap_cons, List.length_append, List.length_cons] at *; rw [ih]; simp [Trn.cells]; omega
theorem turnCells_snoc (ts : List Trn) (t : Trn) : turnCells (ts ++ [t]) = turnCells ts ++ t.cells := by simp [turnCells]
def goOn (ts : List Trn) (d : Int × List (Tr × ByteArray × Nat)) : Int × List (Tr × ByteArray × Nat) := if d.1 = 0 then (0, ts.map Trn.st ++ d.2) else d
def DownPost (w0 w : World) (d : Int × List (Tr × ByteArray × Nat)) (e : Ending) (w' : World) : Prop :=
  Below w.heap.size w w' ∧ ((d.1 ≠ 0 ∧ e = .returned (.tuple #[.slice none 0 0, .int .i64 d.1])) ∨
    (d.1 = 0 ∧ ∃ tv ts, e = .returned (.tuple #[tv, .int .i64 0]) ∧ w'.ownsRow w.heap.size 63 7 tv ts.length (turnCells ts) ∧ ts.map Trn.st = d.2 ∧ ∀ tn ∈ ts, tn.Ok w0))
theorem goOn_there {ts : List Trn} {t u : Tr} {s : ByteArray} {r : List ByteArray} {i : Nat} (tn : Trn) (h : placeB t.kind t.names t.items.length s = true) (hi : placeI t.kind t.names s = i) (hu : t.items[i]? = some u) (ht : tn.st = (t, s, i)) : goOn ts (downT t (s :: r)) = goOn (ts ++ [tn]) (downT u r) := by
  have hd : downT t (s :: r) = if (downT u r).1 = 0 then (0, (t, s, i) :: (downT u r).2) else downT u r := by
    rw [downT, if_pos h, hi, Int.toNat_natCast, hu]
  rw [hd]
  unfold goOn
  by_cases h0 : (downT u r).1 = 0
  · rw [if_pos h0, if_pos rfl, if_pos h0]; simp [ht]
  · rw [if_neg h0, if_neg h0, if_neg h0]
theorem idxFromS_lt (x : ByteArray) : (zs : List ByteArray) → (i : Nat) → Lib.idxFromS zs x i < ((i + zs.length : Nat) : Int) ∨ Lib.idxFromS zs x i = -1
  | [], i => .inr rfl
  | z :: zs, i => by
    unfold Lib.idxFromS
    split
    · exact .inl (by simp; omega)
    · rcases idxFromS_lt x zs (i + 1) with h | h
      · exact .inl (by rw [List.length_cons]; omega)
      · exact .inr h
theorem place_keep {k : Int} {ns : List ByteArray} {its : List Tr} {s : ByteArray} {i : Nat} (h : placeB k ns its.length s = true) (hi : placeI k ns s = i) : (k = 5 ∨ k = 6) ∧ i < (keepIts k ns its).length := by
  unfold placeB at h
  unfold placeI at hi
  unfold keepIts
  by_cases h6 : k = 6
  · rw [if_pos h6] at *
    simp at h
    have hlt := idxFromS_lt s ns 0
    unfold Lib.idxOfS at *
    rw [Nat.zero_add] at hlt
    refine ⟨.inr h6, ?_⟩
    rw [List.length_take]
    omega
  · rw [if_neg h6] at *
    by_cases h5 : k = 5
    · rw [if_pos h5] at *
      simp at h
      exact ⟨.inl h5, by omega⟩
    · rw [if_neg h5] at h; cases h

theorem two_below (w : World) (o1 o2 : Obj) : Below w.heap.size w ((w.alloc o1).alloc o2) := ((Below.refl _ w).alloc (Nat.le_refl _) o1).alloc (by simp) o2
theorem bare6b (x : Int) (tx : ByteArray) (an : Option Addr) (ns : List ByteArray) (cn : Nat) (ai : Option Addr) (its : List Tr) (ci : Nat) (hn : ns.length ≤ cn) (hi : its.length ≤ ci) (w : World) :
    Calls Try.prog 46 #[.agg #[.int .i64 6, .int .i64 x, .string tx, .slice an ns.length cn, .slice ai its.length ci]] w fun e w' => e = .returned (.agg #[.int .i64 6, .int .i64 0, .string ⟨#[]⟩, .slice an (keepIts 6 ns its).length cn, .slice ai (keepIts 6 ns its).length ci]) ∧ Below w.heap.size w w' := by
  have hk : (keepIts 6 ns its).length = min ns.length its.length := by unfold keepIts; rw [if_pos rfl, List.length_take]; omega
  rw [hk]
  refine (bare6 x tx an ns.length cn ai its.length ci _ rfl hn hi w).mono ?_
  rintro e w' ⟨rfl, rfl⟩
  exact ⟨rfl, below_drew (two_below _ _ _)⟩
theorem bare5b (x : Int) (tx : ByteArray) (an : Option Addr) (ln cn : Nat) (ai : Option Addr) (li ci : Nat) (w : World) :
    Calls Try.prog 46 #[.agg #[.int .i64 5, .int .i64 x, .string tx, .slice an ln cn, .slice ai li ci]] w fun e w' => e = .returned (.agg #[.int .i64 5, .int .i64 0, .string ⟨#[]⟩, .slice none 0 0, .slice ai li ci]) ∧ Below w.heap.size w w' := by
  refine (bare5 x tx an ln cn ai li ci w).mono ?_
  rintro e w' ⟨rfl, rfl⟩
  exact ⟨rfl, two_below _ _ _⟩
theorem bareNb (k x : Int) (tx : ByteArray) (an : Option Addr) (ln cn : Nat) (ai : Option Addr) (li ci : Nat) (h5 : k ≠ 5) (h6 : k ≠ 6) (w : World) :
    Calls Try.prog 46 #[.agg #[.int .i64 k, .int .i64 x, .string tx, .slice an ln cn, .slice ai li ci]] w fun e w' => e = .returned (.agg #[.int .i64 k, .int .i64 0, .string ⟨#[]⟩, .slice none 0 0, .slice none 0 0]) ∧ Below w.heap.size w w' := by
  refine (bare_none k x tx an ln cn ai li ci h5 h6 w).mono ?_
  rintro e w' ⟨rfl, rfl⟩
  exact ⟨rfl, two_below _ _ _⟩
theorem goOn_new {ts : List Trn} {t : Tr} {s : ByteArray} {r : List ByteArray} {m : Nat} (h : placeB t.kind t.names t.items.length s = false) (hk : t.kind = 6 ∨ (t.kind = 5 ∧ idx s = some t.items.length)) (hm : (keepIts t.kind t.names t.items).length = m) : goOn ts (downT t (s :: r)) = (0, ts.map Trn.st ++ [(t, s, m)]) := by
  rw [downT, if_neg (by simp [h]), if_pos hk, hm]; rfl
theorem goOn_22 {ts : List Trn} {t : Tr} {s : ByteArray} {r : List ByteArray} {z : Nat} (h : placeB t.kind t.names t.items.length s = false) (hk : t.kind = 5) (hz : idx s = some z) (hne : z ≠ t.items.length) : goOn ts (downT t (s :: r)) = (22, []) := by
  rw [downT, if_neg (by simp [h]), if_neg (by simp [hk, hz, hne]), if_pos (by simp [hk, hz])]; rfl
theorem goOn_21 {ts : List Trn} {t : Tr} {s : ByteArray} {r : List ByteArray} (h : placeB t.kind t.names t.items.length s = false) (h6 : t.kind ≠ 6) (hk : t.kind ≠ 5 ∨ idx s = none) : goOn ts (downT t (s :: r)) = (21, []) := by
  have h1 : ¬ (t.kind = 6 ∨ (t.kind = 5 ∧ idx s = some t.items.length)) := by rcases hk with hk | hk <;> simp [h6, hk]
  have h2 : ¬ (t.kind = 5 ∧ (idx s).isSome = true) := by rcases hk with hk | hk <;> simp [hk]
  rw [downT, if_neg (by simp [h]), if_neg h1, if_neg h2]; rfl

set_option maxHeartbeats 1000000 in
set_option maxRecDepth 100000 in
theorem down_any (t : Tr) (cs : List Value) (pv : Value) (l : List ByteArray) (w0 w : World) (h0 : Below w0.heap.size w0 w) (hV : VRep w0 t cs) (hP : Reads w pv l) (hl : l.length ≤ 1000000) (hS : Hid (Sized l)) :
    Calls Try.prog 28 #[.agg cs.toArray, pv] w (DownPost w0 w (downT t l)) := by
  obtain ⟨i64, hi64, hz0, hz1, hz2⟩ := info_parts A64
  obtain ⟨a, c, rfl, hc, hA⟩ := hP
  obtain ⟨k0, x0, s0, an0, ln0, cn0, ai0, li0, ci0, rfl⟩ := vrep_five hV
  unfold five
  replace h0 := hid_of h0
  replace hV : Hid (VRep w0 t (five k0 x0 s0 (.slice an0 ln0 cn0) (.slice ai0 li0 ci0))) := hV
  replace hA : Hid (l = [] ∨ ∃ b o, a = some ⟨b, o, none⟩ ∧ b < w.heap.size ∧ ∀ j s, l[j]? = some s → w.cell? ⟨b, o + j, none⟩ = some (.string s)) := hA
  have hnew : Row5 (w.alloc (.cells #[.int .i64 k0, .int .i64 x0, .string s0, .slice an0 ln0 cn0, .slice ai0 li0 ci0] 25)) w.heap.size (.int .i64 k0) (.int .i64 x0) (.string s0) (.slice an0 ln0 cn0) (.slice ai0 li0 ci0) := row5_of (heap_alloc_new w _)
  go_enter Try.func28, Try.ntmps28
  go_wp2_with fail
  go_step3
  go_wp2_with fail
  go_step3
  go_wp2_with fail
  go_loopw [6, 16] (fun tv i wr => ∃ (q : Nat) (tv0 : Value) (ts : List Trn) (u : Tr) (k1 x1 : Int) (s1 : ByteArray) (an1 : Option Addr) (ln1 cn1 : Nat) (ai1 : Option Addr) (li1 ci1 : Nat), tv = tv0 ∧ i = .int .i64 q ∧ (q ≤ l.length ∧ ts.length = q) ∧ Hid (Below w.heap.size w wr) ∧ Row5 wr w.heap.size (.int .i64 k1) (.int .i64 x1) (.string s1) (.slice an1 ln1 cn1) (.slice ai1 li1 ci1) ∧ Hid (VRep w0 u (five k1 x1 s1 (.slice an1 ln1 cn1) (.slice ai1 li1 ci1))) ∧
      Hid (wr.ownsRow (w.heap.size + 1) 63 7 tv0 q (turnCells ts)) ∧ Hid (∀ tn ∈ ts, tn.Ok w0) ∧ Hid (downT t l = goOn ts (downT u (l.drop q)))) (fun _ i _ => l.length - (intOf i).toNat)
  case atStart => exact ⟨0, _, [], t, k0, x0, s0, an0, ln0, cn0, ai0, li0, ci0, rfl, rfl, ⟨Nat.zero_le _, rfl⟩, hid_of ((Below.refl _ w).alloc (Nat.le_refl _) _), hnew, hV, hid_of (World.ownsRow_nil _ _ _ _), hid_of (fun tn h => by cases h), hid_of (by unfold goOn; by_cases h : (downT t l).1 = 0 <;> simp [h, Prod.ext_iff])⟩
  case round =>
    clear hnew
    obtain ⟨q, tv, ts, u, k1, x1, s1, an1, ln1, cn1, ai1, li1, ci1, rfl, rfl, ⟨hq, hts⟩, hbel, h1, hU, hown, hok, hG⟩ := hrel
    obtain ⟨at0, ct0, rfl⟩ := ownsRow_slice hown.out
    by_cases hlt : q < l.length
    · have hd : decide ((q : Int) < (l.length : Int)) = true := by simp; omega
      obtain ⟨b, o, rfl, hbl, hA⟩ := hA.out.resolve_left (by intro e; subst e; simp at hlt)
      obtain ⟨x, hx⟩ : ∃ x, Hid (l[q]? = some x) := ⟨_, List.getElem?_eq_getElem hlt⟩
      have c1 : wr.cell? ⟨b, o + q, none⟩ = some (.string x) := (hbel.out.cell (p := ⟨b, o + q, none⟩) hbl).trans (hA q x hx.out)
      clear hA
      have hxs : x.size ≤ 9223372036854775806 := hS.out x (List.mem_of_getElem? hx.out)
      cases u with
      | node ku xu su nsu itsu =>
        obtain ⟨an, cn, ai, ci, xs, he, hcn, hci, hN, hI, hR⟩ := hU.out.parts
        obtain ⟨rfl, rfl, rfl, ⟨rfl, rfl, rfl⟩, rfl, rfl, rfl⟩ : k1 = ku ∧ x1 = xu ∧ s1 = su ∧ (an1 = an ∧ ln1 = nsu.length ∧ cn1 = cn) ∧ ai1 = ai ∧ li1 = itsu.length ∧ ci1 = ci := by simpa [five] using he
        clear he
        have hNr : Reads w0 (.slice an1 nsu.length cn1) nsu := by
          have := hU.out; unfold VRep at this
          obtain ⟨nm, a', c', he, hN, _⟩ := this
          obtain ⟨_, _, _, rfl, _⟩ : k1 = k1 ∧ x1 = x1 ∧ s1 = s1 ∧ Value.slice an1 nsu.length cn1 = nm ∧ True := by simp [five] at he; simp [he]
          exact hN
        have hpl := place_any k1 x1 s1 _ nsu ai1 itsu.length ci1 x wr (hNr.keep (h0.out.trans (hbel.out.mono h0.out.size))) hxs
        obtain ⟨⟨y0, -⟩, ⟨y1, -⟩, ⟨y2, -⟩, ⟨y3, -⟩, ⟨y4, -⟩⟩ := id h1
        replace hN := hid_of hN; replace hI := hid_of hI; replace hR := hid_of hR; replace hNr := hid_of hNr
        go_wp2_with fail
        refine hpl.mono ?_
        rintro e w1 ⟨rfl, hb⟩
        clear hpl c1 y0 y1 y2 y3 y4
        have h11 := h1.below hb
        have hbel1 : Hid (Below w.heap.size w w1) := hid_of (hbel.out.trans (hb.mono hbel.out.size))
        have hown1 : Hid (w1.ownsRow (w.heap.size + 1) 63 7 (.slice at0 q ct0) q (turnCells ts)) := hid_of (ownsRow_below hown.out hb)
        clear hb hown hbel h1
        obtain ⟨⟨y0, -⟩, ⟨y1, -⟩, ⟨y2, -⟩, ⟨y3, -⟩, ⟨y4, -⟩⟩ := id h11
        replace hG : Hid (downT t l = goOn ts (downT (.node k1 x1 s1 nsu itsu) (x :: l.drop (q + 1)))) := by rw [Hid, hG.out, drop_cons hx.out]
        cases hpb : placeB k1 nsu itsu.length x
        · have hfd := field4
          have hcn1 := hcn.1
          have hci1 := hci.1
          clear hR hI hN hNr hV
          by_cases h6 : k1 = 6
          · subst h6
            obtain ⟨n, hmk⟩ : ∃ n, Hid (n = (keepIts 6 nsu itsu).length) := ⟨_, rfl⟩
            have hD : Hid (downT t l = (0, ts.map Trn.st ++ [(.node 6 x1 s1 nsu itsu, x, n)])) := hid_of (hG.out.trans (goOn_new hpb (.inl rfl) hmk.out.symm))
            have hb6 := fun w => bare6b x1 s1 an1 nsu cn1 ai1 itsu ci1 hcn1 hci1 w
            rw [← hmk.out] at hb6
            clear hpb hG
            replace hcn := hid_of hcn; replace hci := hid_of hci
            generalize placeI 6 nsu x = z
            go_wp2_with (first | (go_at_call 45; refine (index_any x hxs _).mono ?_; rintro e w2 ⟨rfl, hb2⟩; have h12 := h11.below hb2; have hbel2 : Hid (Below w.heap.size w w2) := hid_of (hbel1.out.trans (hb2.mono hbel1.out.size)); have hown2 : Hid (w2.ownsRow (w.heap.size + 1) 63 7 (.slice at0 q ct0) q (turnCells ts)) := hid_of (ownsRow_below hown1.out hb2); clear hb2 y0 y1 y2 y3 y4; obtain ⟨⟨y0, -⟩, ⟨y1, -⟩, ⟨y2, -⟩, ⟨y3, -⟩, ⟨y4, -⟩⟩ := id h12; unfold idxV; cases idx x <;> dsimp only) | (go_at_call 46; refine (hb6 _).mono ?_; rintro e w3 ⟨rfl, hb3⟩; have h13 := h12.below hb3; have hbel3 : Hid (Below w.heap.size w w3) := hid_of (hbel2.out.trans (hb3.mono hbel2.out.size)); have hown3 : Hid (w3.ownsRow (w.heap.size + 1) 63 7 (.slice at0 q ct0) q (turnCells ts)) := hid_of (ownsRow_below hown2.out hb3); clear hb3 y0 y1 y2 y3 y4; obtain ⟨⟨y0, -⟩, ⟨y1, -⟩, ⟨y2, -⟩, ⟨y3, -⟩, ⟨y4, -⟩⟩ := id h13) | (at_builtin; refine wpList_append_lies _ rfl _ _ 55 rfl (w.heap.size + 1) 63 i64 _ 7 104 Try.underlying55 hi64 hz0 hz1 hz2 rfl (by decide) _ q (turnCells ts) rfl (hown3.out.alloc _) _ 1 1 [.int .i64 6, .int .i64 x1, .string s1, .slice an1 nsu.length cn1, .slice ai1 itsu.length ci1, .string x, .int .i64 n] rfl rfl (World.news_of_block (heap_alloc_new _ _)) (by simp [Value.oneCell']) (by decide) (by unfold maxLen; omega) (by omega) (by have h2 := h13.lt; simp only [World.size_alloc]; omega) _ rfl ?_; intro g cap w5 hown5 hgrow5 hat5 hlt5; have hB5 : Hid (Below w.heap.size w w5) := hid_of ((hbel3.out.alloc hbel3.out.size _).trans (grown_below hgrow5 (by have h2 := h13.lt; simp only [World.size_alloc]; omega) (fun g hg => by have := (ownsRow_ge hown3.out hg).1; omega))); replace hown5 := hid_of hown5; clear hgrow5 hat5))
            all_goals
              rw [Exit.noGoto_ret]
              go_ret2
              rw [hD.out]
              refine ⟨hB5.out, .inr ⟨rfl, _, ts ++ [⟨6, x1, s1, nsu, itsu, an1, cn1, ai1, ci1, x, n⟩], rfl, ?_, by simp [Trn.st, Trn.tr], fun tn h => ?_⟩⟩
              · rw [turnCells_snoc, List.length_append, hts]
                exact ownsRow_lo hown5.out (by omega)
              · rcases List.mem_append.1 h with h | h
                · exact hok.out tn h
                · rw [List.mem_singleton.1 h]; exact ⟨.inr rfl, Nat.le_of_eq hmk.out, hU.out⟩
          · have hk6 : (k1 == 6) = false := by simpa using h6
            by_cases h5 : k1 = 5
            · subst h5
              have hpi : placeI 5 nsu x = (((idx x).getD 0 : Nat) : Int) := by unfold placeI; rw [if_neg (by decide), if_pos rfl]
              rw [hpi]
              clear hpi
              have hb5 := fun w => bare5b x1 s1 an1 nsu.length cn1 ai1 itsu.length ci1 w
              have hmk : Hid (itsu.length = (keepIts 5 nsu itsu).length) := hid_of (by unfold keepIts; rw [if_neg (by decide)])
              cases hix : idx x with
              | none =>
                have hD : Hid (downT t l = (21, [])) := hid_of (hG.out.trans (goOn_21 hpb h6 (.inr hix)))
                clear hpb hG
                go_wp2_with (first | (go_at_call 45; refine (index_any x hxs _).mono ?_; rintro e w2 ⟨rfl, hb2⟩; have h12 := h11.below hb2; have hbel2 : Hid (Below w.heap.size w w2) := hid_of (hbel1.out.trans (hb2.mono hbel1.out.size)); have hown2 : Hid (w2.ownsRow (w.heap.size + 1) 63 7 (.slice at0 q ct0) q (turnCells ts)) := hid_of (ownsRow_below hown1.out hb2); clear hb2 y0 y1 y2 y3 y4; obtain ⟨⟨y0, -⟩, ⟨y1, -⟩, ⟨y2, -⟩, ⟨y3, -⟩, ⟨y4, -⟩⟩ := id h12; unfold idxV; rw [hix]; dsimp only) | (go_at_call 46; refine (hb5 _).mono ?_; rintro e w3 ⟨rfl, hb3⟩; have h13 := h12.below hb3; have hbel3 : Hid (Below w.heap.size w w3) := hid_of (hbel2.out.trans (hb3.mono hbel2.out.size)); have hown3 : Hid (w3.ownsRow (w.heap.size + 1) 63 7 (.slice at0 q ct0) q (turnCells ts)) := hid_of (ownsRow_below hown2.out hb3); clear hb3 y0 y1 y2 y3 y4; obtain ⟨⟨y0, -⟩, ⟨y1, -⟩, ⟨y2, -⟩, ⟨y3, -⟩, ⟨y4, -⟩⟩ := id h13))
                rw [Exit.noGoto_ret]
                go_ret2
                rw [hD.out]
                exact ⟨hbel3.out, .inl ⟨by decide, rfl⟩⟩
              | some z =>
                by_cases hz : z = itsu.length
                · have hD : Hid (downT t l = (0, ts.map Trn.st ++ [(.node 5 x1 s1 nsu itsu, x, itsu.length)])) := hid_of (hG.out.trans (goOn_new hpb (.inr ⟨rfl, by rw [hix, hz]; rfl⟩) hmk.out.symm))
                  subst hz
                  clear hpb hG
                  replace hcn := hid_of hcn; replace hci := hid_of hci
                  go_wp2_with (first | (go_at_call 45; refine (index_any x hxs _).mono ?_; rintro e w2 ⟨rfl, hb2⟩; have h12 := h11.below hb2; have hbel2 : Hid (Below w.heap.size w w2) := hid_of (hbel1.out.trans (hb2.mono hbel1.out.size)); have hown2 : Hid (w2.ownsRow (w.heap.size + 1) 63 7 (.slice at0 q ct0) q (turnCells ts)) := hid_of (ownsRow_below hown1.out hb2); clear hb2 y0 y1 y2 y3 y4; obtain ⟨⟨y0, -⟩, ⟨y1, -⟩, ⟨y2, -⟩, ⟨y3, -⟩, ⟨y4, -⟩⟩ := id h12; unfold idxV; rw [hix]; dsimp only) | (go_at_call 46; refine (hb5 _).mono ?_; rintro e w3 ⟨rfl, hb3⟩; have h13 := h12.below hb3; have hbel3 : Hid (Below w.heap.size w w3) := hid_of (hbel2.out.trans (hb3.mono hbel2.out.size)); have hown3 : Hid (w3.ownsRow (w.heap.size + 1) 63 7 (.slice at0 q ct0) q (turnCells ts)) := hid_of (ownsRow_below hown2.out hb3); clear hb3 y0 y1 y2 y3 y4; obtain ⟨⟨y0, -⟩, ⟨y1, -⟩, ⟨y2, -⟩, ⟨y3, -⟩, ⟨y4, -⟩⟩ := id h13) | (at_builtin; refine wpList_append_lies _ rfl _ _ 55 rfl (w.heap.size + 1) 63 i64 _ 7 104 Try.underlying55 hi64 hz0 hz1 hz2 rfl (by decide) _ q (turnCells ts) rfl (hown3.out.alloc _) _ 1 1 [.int .i64 5, .int .i64 x1, .string s1, .slice an1 nsu.length cn1, .slice ai1 itsu.length ci1, .string x, .int .i64 itsu.length] rfl rfl (World.news_of_block (heap_alloc_new _ _)) (by simp [Value.oneCell']) (by decide) (by unfold maxLen; omega) (by omega) (by have h2 := h13.lt; simp only [World.size_alloc]; omega) _ rfl ?_; intro g cap w5 hown5 hgrow5 hat5 hlt5; have hB5 : Hid (Below w.heap.size w w5) := hid_of ((hbel3.out.alloc hbel3.out.size _).trans (grown_below hgrow5 (by have h2 := h13.lt; simp only [World.size_alloc]; omega) (fun g hg => by have := (ownsRow_ge hown3.out hg).1; omega))); replace hown5 := hid_of hown5; clear hgrow5 hat5))
                  rw [Exit.noGoto_ret]
                  go_ret2
                  rw [hD.out]
                  refine ⟨hB5.out, .inr ⟨rfl, _, ts ++ [⟨5, x1, s1, nsu, itsu, an1, cn1, ai1, ci1, x, itsu.length⟩], rfl, ?_, by simp [Trn.st, Trn.tr], fun tn h => ?_⟩⟩
                  · rw [turnCells_snoc, List.length_append, hts]
                    exact ownsRow_lo hown5.out (by omega)
                  · rcases List.mem_append.1 h with h | h
                    · exact hok.out tn h
                    · rw [List.mem_singleton.1 h]; exact ⟨.inl rfl, Nat.le_of_eq hmk.out, hU.out⟩
                · have hD : Hid (downT t l = (22, [])) := hid_of (hG.out.trans (goOn_22 hpb rfl hix hz))
                  have hzd : ((z : Int) == (itsu.length : Int)) = false := by simp; omega
                  clear hpb hG
                  go_wp2_with (first | (go_at_call 45; refine (index_any x hxs _).mono ?_; rintro e w2 ⟨rfl, hb2⟩; have h12 := h11.below hb2; have hbel2 : Hid (Below w.heap.size w w2) := hid_of (hbel1.out.trans (hb2.mono hbel1.out.size)); have hown2 : Hid (w2.ownsRow (w.heap.size + 1) 63 7 (.slice at0 q ct0) q (turnCells ts)) := hid_of (ownsRow_below hown1.out hb2); clear hb2 y0 y1 y2 y3 y4; obtain ⟨⟨y0, -⟩, ⟨y1, -⟩, ⟨y2, -⟩, ⟨y3, -⟩, ⟨y4, -⟩⟩ := id h12; unfold idxV; rw [hix]; dsimp only) | (go_at_call 46; refine (hb5 _).mono ?_; rintro e w3 ⟨rfl, hb3⟩; have h13 := h12.below hb3; have hbel3 : Hid (Below w.heap.size w w3) := hid_of (hbel2.out.trans (hb3.mono hbel2.out.size)); have hown3 : Hid (w3.ownsRow (w.heap.size + 1) 63 7 (.slice at0 q ct0) q (turnCells ts)) := hid_of (ownsRow_below hown2.out hb3); clear hb3 y0 y1 y2 y3 y4; obtain ⟨⟨y0, -⟩, ⟨y1, -⟩, ⟨y2, -⟩, ⟨y3, -⟩, ⟨y4, -⟩⟩ := id h13))
                  rw [Exit.noGoto_ret]
                  go_ret2
                  rw [hD.out]
                  exact ⟨hbel3.out, .inl ⟨by decide, rfl⟩⟩
            · have hk5 : (k1 == 5) = false := by simpa using h5
              have hD : Hid (downT t l = (21, [])) := hid_of (hG.out.trans (goOn_21 hpb h6 (.inl h5)))
              have hbN := fun w => bareNb k1 x1 s1 an1 nsu.length cn1 ai1 itsu.length ci1 h5 h6 w
              clear hpb hG
              generalize placeI k1 nsu x = z
              go_wp2_with (first | (go_at_call 45; refine (index_any x hxs _).mono ?_; rintro e w2 ⟨rfl, hb2⟩; have h12 := h11.below hb2; have hbel2 : Hid (Below w.heap.size w w2) := hid_of (hbel1.out.trans (hb2.mono hbel1.out.size)); have hown2 : Hid (w2.ownsRow (w.heap.size + 1) 63 7 (.slice at0 q ct0) q (turnCells ts)) := hid_of (ownsRow_below hown1.out hb2); clear hb2 y0 y1 y2 y3 y4; obtain ⟨⟨y0, -⟩, ⟨y1, -⟩, ⟨y2, -⟩, ⟨y3, -⟩, ⟨y4, -⟩⟩ := id h12; unfold idxV; cases idx x <;> dsimp only) | (go_at_call 46; refine (hbN _).mono ?_; rintro e w3 ⟨rfl, hb3⟩; have h13 := h12.below hb3; have hbel3 : Hid (Below w.heap.size w w3) := hid_of (hbel2.out.trans (hb3.mono hbel2.out.size)); have hown3 : Hid (w3.ownsRow (w.heap.size + 1) 63 7 (.slice at0 q ct0) q (turnCells ts)) := hid_of (ownsRow_below hown2.out hb3); clear hb3 y0 y1 y2 y3 y4; obtain ⟨⟨y0, -⟩, ⟨y1, -⟩, ⟨y2, -⟩, ⟨y3, -⟩, ⟨y4, -⟩⟩ := id h13))
              all_goals
                rw [Exit.noGoto_ret]
                go_ret2
                rw [hD.out]
                exact ⟨hbel3.out, .inl ⟨by decide, rfl⟩⟩
        · obtain ⟨i, hi, him⟩ := placeB_true hpb
          obtain ⟨hk56, hik⟩ := place_keep (its := itsu) hpb hi
          obtain ⟨u', hu'⟩ : ∃ u', itsu[i]? = some u' := ⟨_, List.getElem?_eq_getElem him⟩
          obtain ⟨b2, o2, rfl, hb2, cs', hcs', hVu⟩ : ∃ b2 o2, ai1 = some ⟨b2, o2, none⟩ ∧ b2 < w0.heap.size ∧ ∃ cs', CellsAt w0 b2 (o2 + i * 5) cs' ∧ VRep w0 u' cs' := by
            have hU' := hU.out
            unfold VRep at hU'
            obtain ⟨nm, a', c', he, _, _, hI'⟩ := hU'
            obtain rfl : ai1 = a' := by simp [five] at he; exact he.2.1
            obtain ⟨b2, o2, e, hb2, hI'⟩ := hI'.resolve_left (by intro e; subst e; simp at him)
            exact ⟨b2, o2, e, hb2, VRepL.at itsu o2 i u' hI' hu'⟩
          obtain ⟨k2, x2, s2, an2, ln2, cn2, ai2, li2, ci2, rfl⟩ := vrep_five hVu
          have hG2 : Hid (downT t l = goOn (ts ++ [⟨k1, x1, s1, nsu, itsu, an1, cn1, some ⟨b2, o2, none⟩, ci1, x, i⟩]) (downT u' (l.drop (q + 1)))) := hid_of (hG.out.trans (goOn_there _ hpb hi hu' rfl))
          have hok2 : Hid (∀ tn ∈ ts ++ [⟨k1, x1, s1, nsu, itsu, an1, cn1, some ⟨b2, o2, none⟩, ci1, x, i⟩], tn.Ok w0) := hid_of (fun tn h => by
            rcases List.mem_append.1 h with h | h
            · exact hok.out tn h
            · rw [List.mem_singleton.1 h]; exact ⟨hk56, Nat.le_of_lt hik, hU.out⟩)
          replace hcs' := hid_of hcs'; replace hVu := hid_of hVu
          rw [hi]
          clear hi hpb hG hok hik hk56 hR hI hN hNr hV hu'
          have i1 : (i : Int) < (itsu.length : Int) := by omega
          have i2 : (0 : Int) ≤ (i : Int) := by omega
          go_wp2_with (at_builtin; refine wpList_append_lies _ rfl _ _ 55 rfl (w.heap.size + 1) 63 i64 _ 7 104 Try.underlying55 hi64 hz0 hz1 hz2 rfl (by decide) _ q (turnCells ts) rfl (hown1.out.alloc _) _ 1 1 [.int .i64 k1, .int .i64 x1, .string s1, .slice an1 nsu.length cn1, .slice (some ⟨b2, o2, none⟩) itsu.length ci1, .string x, .int .i64 i] rfl rfl (World.news_of_block (heap_alloc_new _ _)) (by simp [Value.oneCell']) (by decide) (by unfold maxLen; omega) (by omega) (by have h2 := h11.lt; simp only [World.size_alloc]; omega) _ rfl ?_; intro g cap w5 hown5 hgrow5 hat5 hlt5; have hB5 : Hid (Below w.heap.size w w5) := hid_of ((hbel1.out.alloc hbel1.out.size _).trans (grown_below hgrow5 (by have h2 := h11.lt; simp only [World.size_alloc]; omega) (fun g hg => by have := (ownsRow_ge hown1.out hg).1; omega))); have h15 := (h11.alloc (.cells #[.int .i64 k1, .int .i64 x1, .string s1, .slice an1 nsu.length cn1, .slice (some ⟨b2, o2, none⟩) itsu.length ci1, .string x, .int .i64 i] 63)).far (grown_far hgrow5 (by have h2 := h11.lt; simp only [World.size_alloc]; omega) (fun e => by have := (ownsRow_ge hown1.out e.symm).1; omega)); obtain ⟨⟨v0, u0⟩, ⟨v1, u1⟩, ⟨v2, u2⟩, ⟨v3, u3⟩, ⟨v4, u4⟩⟩ := id h15; have h05 : Hid (Below w0.heap.size w0 w5) := hid_of (h0.out.trans (hB5.out.mono h0.out.size)); have n0 : w5.cell? ⟨b2, o2 + i * 5, none⟩ = some (.int .i64 k2) := (h05.out.cell (p := ⟨b2, o2 + i * 5, none⟩) hb2).trans (hcs'.out 0 _ rfl); have n1 : w5.cell? ⟨b2, o2 + i * 5 + 1, none⟩ = some (.int .i64 x2) := (h05.out.cell (p := ⟨b2, o2 + i * 5 + 1, none⟩) hb2).trans (hcs'.out 1 _ rfl); have n2 : w5.cell? ⟨b2, o2 + i * 5 + 2, none⟩ = some (.string s2) := (h05.out.cell (p := ⟨b2, o2 + i * 5 + 2, none⟩) hb2).trans (hcs'.out 2 _ rfl); have n3 : w5.cell? ⟨b2, o2 + i * 5 + 3, none⟩ = some (.slice an2 ln2 cn2) := (h05.out.cell (p := ⟨b2, o2 + i * 5 + 3, none⟩) hb2).trans (hcs'.out 3 _ rfl); have n4 : w5.cell? ⟨b2, o2 + i * 5 + 4, none⟩ = some (.slice ai2 li2 ci2) := (h05.out.cell (p := ⟨b2, o2 + i * 5 + 4, none⟩) hb2).trans (hcs'.out 4 _ rfl); replace hown5 := hid_of hown5; replace hgrow5 := hid_of hgrow5; replace hat5 := hid_of hat5)
          have hgb : g ≠ w.heap.size := by
            have := (ownsRow_ge hown5.out (g := g) rfl).1
            omega
          go_roundw
          case rel =>
            refine ⟨q + 1, _, ts ++ [⟨k1, x1, s1, nsu, itsu, an1, cn1, some ⟨b2, o2, none⟩, ci1, x, i⟩], u', k2, x2, s2, an2, ln2, cn2, ai2, li2, ci2, rfl, by simp, ⟨by omega, by simp [hts]⟩, hid_of (hB5.out.trans (put5_below (Nat.le_refl _) _ _ _ _ _)), h15.put _ _ _ _ _, hVu, hid_of ?_, hok2, hG2⟩
            rw [turnCells_snoc]
            exact ownsRow_keep hown5.out (fun g0 e => put5_far _ _ _ _ _ (by cases e; exact hgb))
          case measure => simp [intOf]; omega
    · have hd : decide ((q : Int) < (l.length : Int)) = false := by simp; omega
      obtain ⟨⟨y0, -⟩, ⟨y1, -⟩, ⟨y2, -⟩, ⟨y3, -⟩, ⟨y4, -⟩⟩ := id h1
      go_wp2_with fail
      rw [Exit.noGoto_ret]
      go_ret2
      have hD : downT t l = (0, ts.map Trn.st) := by rw [hG.out, List.drop_of_length_le (by omega)]; cases u; simp [downT, goOn]
      rw [hD]
      exact ⟨hbel.out, .inr ⟨rfl, _, ts, rfl, ownsRow_lo (by rw [hts]; exact hown.out) (by omega), rfl, hok.out⟩⟩
end Go.Proofs.Ytmlbofbnklmedaa
/-! Set, of every value and path. -/
namespace Go.Proofs.Ytmlbofbnklmedaa
open Go Go.RowKit

def upS (l : List (Tr × ByteArray × Nat)) (X : Tr) : Tr := l.foldr (fun st X => withT st.1.kind st.1.names st.1.items st.2.1 st.2.2 X) X
def nestS (l : List ByteArray) (X : Tr) : Tr := l.foldr (fun s X => .node 6 0 ⟨#[]⟩ [s] [X]) X
/-- What Set answers. -/
def setT (t : Tr) (l : List ByteArray) (X : Tr) : Tr := upS (downT t l).2 (nestS (l.drop (downT t l).2.length) X)
theorem backs_rev (n : Nat) : backs n n = (List.range n).reverse := by
  unfold backs
  apply List.ext_getElem
  · simp
  · intro i h1 h2
    simp
theorem range_get {α : Type} (l : List α) (d : α) : (List.range l.length).map (fun i => l.getD i d) = l := by
  apply List.ext_getElem
  · simp
  · intro i h1 h2
    simp [List.getD_eq_getElem?_getD, h2]
theorem ups_list (ts : List Trn) (d : Trn) (X : Tr) : ups (fun i => ts.getD i d) (backs ts.length ts.length) X = upS (ts.map Trn.st) X := by
  unfold ups upS
  rw [backs_rev, List.foldl_reverse, List.foldr_map]
  conv => rhs; rw [← range_get ts d]
  rw [List.foldr_map]
  rfl
theorem nests_list (l : List ByteArray) (d : ByteArray) (X : Tr) : nests (fun i => l.getD i d) (backs l.length l.length) X = nestS l X := by
  unfold nests nestS
  rw [backs_rev, List.foldl_reverse]
  conv => rhs; rw [← range_get l d]
  rw [List.foldr_map]
/-- The way down is no longer than the path. -/
theorem downT_len : (l : List ByteArray) → (t : Tr) → (downT t l).2.length ≤ l.length
  | [], t => by cases t; simp [downT]
  | s :: r, t => by
    rw [downT]
    split
    · split
      · simp
      · rename_i u _
        have := downT_len r u
        split
        · simp only [List.length_cons]; omega
        · simp only [List.length_cons]; omega
    · split
      · simp
      · split <;> simp
theorem turn_cells {ts : List Trn} {i : Nat} {t : Trn} (h : ts[i]? = some t) : ∀ j u, t.cells[j]? = some u → (turnCells ts)[i * 7 + j]? = some u := by
  induction ts generalizing i with
  | nil => simp at h
  | cons a ts ih =>
    intro j u hj
    have ha : a.cells.length = 7 := rfl
    have hj7 : j < 7 := (List.getElem?_eq_some_iff.1 hj).1
    cases i with
    | zero =>
      have : a = t := by simpa using h
      subst this
      simp only [turnCells, List.flatMap_cons, Nat.zero_mul, Nat.zero_add]
      rw [List.getElem?_append_left (by omega)]
      exact hj
    | succ i =>
      have := ih (i := i) (by simpa using h) j u hj
      simp only [turnCells, List.flatMap_cons] at *
      rw [List.getElem?_append_right (by omega), ha, show (i + 1) * 7 + j - 7 = i * 7 + j by omega]
      exact this
/-- up, of the turns that down answers. -/
theorem up_turns (w0 w : World) (h0 : Below w0.heap.size w0 w) (ts : List Trn) (tv : Value) (lo : Nat) (hrow : w.ownsRow lo 63 7 tv ts.length (turnCells ts)) (hok : ∀ tn ∈ ts, tn.Ok w0 ∧ (tn.its.length + 1) * 80 ≤ 140737488355328) (k1 x1 : Int) (s1 : ByteArray) (an1 : Option Addr) (ln1 cn1 : Nat) (ai1 : Option Addr) (li1 ci1 : Nat) (X : Tr) (S : Nat → Prop) (hS : ∀ k, S k → k < w.heap.size) (hS0 : ∀ k, k < w0.heap.size → S k) (hX : Seen w S X (five k1 x1 s1 (.slice an1 ln1 cn1) (.slice ai1 li1 ci1))) :
    Calls Try.prog 29 #[tv, .agg #[.int .i64 k1, .int .i64 x1, .string s1, .slice an1 ln1 cn1, .slice ai1 li1 ci1]] w fun e w' => Below w.heap.size w w' ∧ ∃ cs, e = .returned (.agg cs.toArray) ∧ Seen w' (fun k => S k ∨ w.heap.size + 1 < k) (upS (ts.map Trn.st) X) cs := by
  obtain ⟨a, c, rfl⟩ := ownsRow_slice hrow
  have hmax : ts.length ≤ 9223372036854775807 := by
    rcases hrow.2 with ⟨_, h⟩ | ⟨g, cap, cur, hv, _, _, h1, h2, _⟩
    · omega
    · unfold maxLen at h2; omega
  cases ts with
  | nil =>
    have := up_any w0 w h0 0 c (by omega) a (fun _ => ⟨0, 0, ⟨#[]⟩, [], [], none, 0, none, 0, ⟨#[]⟩, 0⟩) (fun h => absurd h (by omega)) (fun i h => absurd h (by omega)) k1 x1 s1 an1 ln1 cn1 ai1 li1 ci1 X S hS hS0 hX
    exact this
  | cons t0 ts =>
    have hd : ∀ i, ∃ tn ∈ t0 :: ts, (t0 :: ts).getD i t0 = tn := fun i => by
      rcases Nat.lt_or_ge i (t0 :: ts).length with h | h
      · exact ⟨_, List.getElem_mem h, by rw [List.getD_eq_getElem?_getD, List.getElem?_eq_getElem h]; rfl⟩
      · exact ⟨t0, List.mem_cons_self, by rw [List.getD_eq_getElem?_getD, List.getElem?_eq_none h]; rfl⟩
    have := up_any w0 w h0 (t0 :: ts).length c hmax a (fun i => (t0 :: ts).getD i t0) (fun _ i => by
      obtain ⟨tn, hm, e⟩ := hd i
      show Trn.Good w0 ((t0 :: ts).getD i t0)
      rw [e]
      obtain ⟨⟨h1, h2, h3⟩, h4⟩ := hok tn hm
      exact ⟨h1, h2, h4, h3⟩) (fun i hi => by
      rcases hrow.2 with ⟨_, h⟩ | ⟨g, cap, cur, hv, _⟩
      · simp at h
      · injection hv with e1 e2 e3
        subst e1; subst e3
        refine ⟨g, 0, rfl, fun j u hj => ?_⟩
        rw [Nat.zero_add]
        exact row_cell hrow _ u (turn_cells (t := (t0 :: ts).getD i t0) (by rw [List.getD_eq_getElem?_getD, List.getElem?_eq_getElem hi]; rfl) j u hj)) k1 x1 s1 an1 ln1 cn1 ai1 li1 ci1 X S hS hS0 hX
    rw [ups_list] at this
    exact this
end Go.Proofs.Ytmlbofbnklmedaa
