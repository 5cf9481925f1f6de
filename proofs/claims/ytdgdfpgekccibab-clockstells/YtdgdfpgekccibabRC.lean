import Derived.Test.YtdgdfpgekccibabRB
import Derived.Test.YtdgdfpgekccibabCT
/-! The document's Races. -/
namespace Go.Proofs.Ytdgdfpgekccibab
open Go Go.RowKit
theorem rrace_u : Try.prog.underlying 41 = some (.slice 75) := by kernel_rfl
theorem rrace_info : ∃ ri, Try.prog.info? 75 = some ri ∧ ri.zero = some (.agg #[.int .i64 0, .int .i64 0]) ∧ ri.size = 2 ∧ ri.bytes = 16 := by
  have : (Try.prog.info? 75).map (fun i => (i.zero, i.size, i.bytes)) = some (some (.agg #[.int .i64 0, .int .i64 0]), 2, 16) := by kernel_rfl
  cases hq : Try.prog.info? 75 with
  | none => rw [hq] at this; cases this
  | some ri => rw [hq] at this; simp at this; exact ⟨ri, rfl, this.1, this.2.1, this.2.2⟩
theorem raceK_yes {evs : List Ev} {j i : Nat} (h : raceAt evs j = some i) : raceK evs (j + 1) = raceK evs j ++ [(i, j)] := by simp only [raceK, h]
theorem raceK_no {evs : List Ev} {j : Nat} (h : raceAt evs j = none) : raceK evs (j + 1) = raceK evs j := by simp only [raceK, h]
/-- The races told so far, and the table. -/
structure RcAt (lo : Nat) (w : World) (evs : List Ev) (j : Nat) (rv tv : Value) (G : Nat → Nat) : Prop where
  row : w.ownsRow lo 75 2 rv (raceK evs j).length (flatR (raceK evs j))
  tab : TabAt lo w evs evs.length evs.length tv G
theorem rc_own {lo : Nat} {w : World} {m : Nat} {l : List Value} {rv : Value} (h : w.ownsRow lo 75 2 rv m l) : ∀ b, rv.ownBlock = some b → lo ≤ b ∧ ∃ cs, w.heap[b]? = some (.cells cs 75 (0, 0)) := fun b e => by
  obtain ⟨h1, h2⟩ := h
  rcases h2 with ⟨hv, _⟩ | ⟨g', cap', cur, hv, hg', hh, _⟩
  · rw [hv] at e; cases e
  · rw [hv] at e
    cases e
    exact ⟨hg', cur, hh⟩
theorem RcAt.under {lo : Nat} {w w' : World} {evs : List Ev} {j : Nat} {rv tv : Value} {G : Nat → Nat} (h : RcAt lo w evs j rv tv G) (hB : Below w.heap.size w w') : RcAt lo w' evs j rv tv G :=
  ⟨ownsRow_keep h.row (fun b e => by obtain ⟨-, cs, h2⟩ := rc_own h.row b e; exact hB.block b (Array.getElem?_eq_some_iff.1 h2).1), h.tab.under hB⟩
theorem RcAt.more {lo : Nat} {w w0 w2 : World} {evs : List Ev} {i j g c : Nat} {rv tv : Value} {G : Nat → Nat} (h : RcAt lo w evs j rv tv G) (hi : raceAt evs j = some i) (hlo : lo ≤ w.heap.size) (hB : Below w.heap.size w w0)
    (r1 : w2.ownsRow lo 75 2 (.slice (some ⟨g, 0, none⟩) ((raceK evs j).length + 1) c) ((raceK evs j).length + 1) (flatR (raceK evs j) ++ [.int .i64 (i : Nat), .int .i64 (j : Nat)])) (r2 : w0.grownBy w2 rv.ownBlock) :
    RcAt lo w2 evs (j + 1) (.slice (some ⟨g, 0, none⟩) ((raceK evs j).length + 1) c) tv G ∧ Below lo w w2 := by
  have hown := rc_own h.row
  have hk : ∀ {b : Nat} {t : TypeId} {n : Nat} {f : Nat → Value}, t ≠ 75 → w.rowIs b t n f → w2.rowIs b t n f := fun {b t n f} hne hr => by
    refine hr.of_block ?_
    refine (r2.block b (Nat.lt_of_lt_of_le hr.lt hB.size) (fun e' => ?_)).trans (hB.block b hr.lt)
    obtain ⟨-, cs', h2⟩ := hown b e'.symm
    obtain ⟨cs, h3, -⟩ := hr
    rw [h3] at h2
    cases h2
    exact hne rfl
  refine ⟨⟨?_, ?_, fun q hq => ⟨(h.tab.each q hq).1, hk (by decide) (h.tab.each q hq).2⟩⟩, (hB.mono hlo).grown r2 (Nat.le_trans hlo hB.size) (fun b e => (hown b e).1)⟩
  · rw [raceK_yes hi, List.length_append]
    exact (flatR_snoc _ _) ▸ r1
  · refine ownsRow_keep h.tab.row (fun b e => ?_)
    obtain ⟨-, cs, h2⟩ := tab_own h.tab.row b e
    have hlt := (Array.getElem?_eq_some_iff.1 h2).1
    refine (r2.block b (Nat.lt_of_lt_of_le hlt hB.size) (fun e' => ?_)).trans (hB.block b hlt)
    obtain ⟨-, cs', h3⟩ := hown b e'.symm
    rw [h2] at h3
    cases h3
set_option maxHeartbeats 4000000 in
set_option maxRecDepth 100000 in
theorem refraces_any (a : Option Addr) (cap : Nat) (evs : List Ev) (clients : Int) (w : World) (hE : EvsAt w a evs) (hcap : evs.length ≤ cap) (hcm : cap ≤ 9223372036854775807) (hn2 : chk evs clients = 0 → evs.length ≤ 200) :
    Calls Try.prog 17 #[.slice a evs.length cap, .int .i64 clients] w (RacesPost w evs clients) := by
  have hck := hid_of (refcheck_any a cap evs clients w hE (by omega))
  by_cases h0 : chk evs clients = 0
  · have hn2 := hn2 h0
    obtain ⟨q1, q2, q3, q4⟩ := chk_ok h0
    have hpos : ∀ e ∈ evs, 0 ≤ e.c := fun e he => (ok_c (q4 e he) q2).1
    have hok : ∀ e ∈ evs, okEv 16 e = true := fun e he => ok16 (q4 e he) q2
    have hah := hid_of (refahead_any a cap evs w hE hcap hcm hn2 hpos)
    have hscan := hid_of (fun j (hj : j < evs.length) => raceAt_scan hok hj)
    have hra := hid_of (fun i j lo ov G W (hW : Below w.heap.size w W) hij hj hT => race_any a cap evs i j lo ov G W (hE.keep hW) hij hj hn2 hT)
    have hpost : Hid (∀ e w', Below w.heap.size w w' → (∃ ov, e = .returned (.tuple #[ov, .int .i64 0]) ∧ w'.ownsRow w.heap.size 75 2 ov (raceK evs evs.length).length (flatR (raceK evs evs.length))) → RacesPost w evs clients e w') := fun e w' h1 h2 => ⟨h1, .inr ⟨h0, h2⟩⟩
    rw [h0] at hck
    obtain ⟨ri, hri, hri1, hri2, hri3⟩ := rrace_info
    obtain ⟨n, hn⟩ : ∃ n, Hid (evs.length = n) := ⟨_, rfl⟩
    have hlen := hid_of (fun k => raceK_len evs k)
    obtain ⟨lo, hlo⟩ : ∃ lo, Hid (w.heap.size = lo) := ⟨_, rfl⟩
    rw [hn.out] at hck hah hn2 hcap ⊢
    clear hE q1 q2 q3 q4 hpos hok h0
    go_enter Try.func17, Try.ntmps17
    go_wp2_with fail
    refine hck.out.mono ?_
    rintro e Z ⟨rfl, hz⟩
    obtain rfl : w = Z := hz.symm
    clear hz hck
    go_wp2_with fail
    refine hah.out.mono ?_
    rintro e W1 ⟨tv, G, rfl, hT1, hB1⟩
    have hR1 : Hid (RcAt lo W1 evs 0 (.slice none 0 0) tv G) := ⟨⟨by simp [raceK, flatR], .inl ⟨rfl, rfl⟩⟩, by rw [hn.out, ← hlo.out]; exact hT1⟩
    replace hB1 := hid_of hB1
    rw [hlo.out] at hB1 hra hpost
    clear hah hT1
    go_wp2_with fail
    go_loopw [8, 9] (fun rv jv wr => ∃ j : Nat, jv = .int .i64 (j : Nat) ∧ j ≤ n ∧ RcAt lo wr evs j rv tv G ∧ Below lo w wr) (fun _ jv _ => n - (intOf jv).toNat)
    case atStart => exact ⟨0, rfl, Nat.zero_le _, hR1.out, hB1.out⟩
    case round =>
      clear hR1 hB1
      obtain ⟨wo, hwo⟩ : ∃ wo : World, wo = wr := ⟨_, rfl⟩
      subst hwo
      obtain ⟨j, rfl, hjn, hR, hB⟩ := hrel
      have hlw : lo ≤ wo.heap.size := by have := hB.size; have := hlo.out; omega
      obtain ⟨ra, rcap, hrv, -, -, -⟩ := ownsRow_form hR.row
      subst hrv
      have hml := hlen.out j
      obtain ⟨m, hm⟩ : ∃ m, Hid ((raceK evs j).length = m) := ⟨_, rfl⟩
      rw [hm.out] at hml hR ⊢
      by_cases hj : j < n
      · have hsc := hid_of (hscan.out j (by rw [hn.out]; exact hj))
        replace hR := hid_of hR
        replace hB := hid_of hB
        go_wp2_with fail
        go_loopw [8, 10] (fun rv iv wr2 => ∃ i : Nat, rv = .slice ra m rcap ∧ iv = .int .i64 (i : Nat) ∧ i ≤ j ∧ Hid (raceAt evs j = scanR evs j i (j - i)) ∧ Below wo.heap.size wo wr2) (fun _ iv _ => j - (intOf iv).toNat)
        case atStart => exact ⟨0, rfl, rfl, Nat.zero_le _, by unfold Hid; rw [hsc.out, Nat.sub_zero], Below.refl _ wo⟩
        case round =>
          obtain ⟨wr2, hwo⟩ : ∃ wr2 : World, wr2 = wr := ⟨_, rfl⟩
          subst hwo
          obtain ⟨i, rfl, rfl, hij, hs, hB2⟩ := hrel
          by_cases hi : i < j
          · have hR2 := hR.out.under hB2
            have hB02 : Below lo w wr2 := hB.out.trans (hB2.mono hlw)
            have hrc := hid_of (hra.out i j lo tv G wr2 hB02 hi (by rw [hn.out]; exact hj) hR2.tab)
            obtain ⟨t, ht⟩ : ∃ t, Hid (raceD evs i j = t) := ⟨_, rfl⟩
            rw [ht.out, hn.out] at hrc
            have hst : Hid (scanR evs j i (j - i) = if raceD evs i j then some i else scanR evs j (i + 1) (j - (i + 1))) := by
              unfold Hid
              rw [show j - i = (j - (i + 1)) + 1 by omega]
              simp only [scanR]
            rw [ht.out] at hst
            replace hB2 := hid_of hB2
            clear hR2 hB02
            go_wp2_with fail
            refine hrc.out.mono ?_
            rintro e Z ⟨rfl, hZ⟩
            have hBZ : Hid (Below wo.heap.size wo Z) := hB2.out.trans (hZ.mono hB2.out.size)
            clear hrc hZ hB2
            cases t with
            | false =>
              go_wp2_with fail
              go_roundw
              case rel => exact ⟨i + 1, rfl, by go_num, by omega, by unfold Hid; rw [hs.out, hst.out]; rfl, hBZ.out⟩
              case measure =>
                simp only [intOf]
                omega
            | true =>
              have hat : raceAt evs j = some i := by rw [hs.out, hst.out]; rfl
              have hRZ := hR.out.under hBZ.out
              have hlZ : lo ≤ Z.heap.size := Nat.le_trans hlw hBZ.out.size
              have hfin := hid_of (fun w0 g c w2 h1 r1 r2 => hRZ.more (w0 := w0) (w2 := w2) (g := g) (c := c) hat hlZ h1 r1 r2)
              have hrow := hid_of hRZ.row
              have hB0Z : Hid (Below lo w Z) := hB.out.trans (hBZ.out.mono hlw)
              have hone : Hid (∀ v ∈ [Value.int .i64 (i : Nat), .int .i64 (j : Nat)], v.oneCell' = true) := fun v hv => by simp at hv; rcases hv with rfl | rfl <;> rfl
              rw [hm.out] at hrow hfin
              replace hlZ := hid_of hlZ
              clear hRZ hat hs hst hBZ
              go_wp2_with (at_builtin; refine wpList_append_lies _ rfl _ _ 41 rfl lo 75 ri _ 2 16 rrace_u hri hri1 hri2 hri3 rfl (by decide) _ m (flatR (raceK evs j)) rfl (hrow.out.alloc _) _ 1 1 [.int .i64 (i : Nat), .int .i64 (j : Nat)] rfl rfl (World.news_of_block (heap_alloc_new Z _)) hone.out (by decide) (by unfold maxLen; omega) (by omega) (Nat.le_trans hlZ.out (Nat.le_of_lt (World.size_alloc_lt Z _))) _ rfl ?_; intro g1 c1 W2 r1 r2 r3 r4; replace r1 := hid_of r1; replace r2 := hid_of r2; clear r3 r4)
              go_roundw
              case rel =>
                obtain ⟨e1, e2⟩ := hfin.out _ _ _ _ ((Below.refl _ Z).alloc (Nat.le_refl _) _) r1.out r2.out
                exact ⟨j + 1, by go_num, by omega, e1, hB0Z.out.trans e2⟩
              case measure =>
                simp only [intOf]
                omega
          · obtain rfl : i = j := by omega
            have hat : raceAt evs i = none := by rw [hs.out, Nat.sub_self]; rfl
            have hR3 : Hid (RcAt lo wr2 evs (i + 1) (.slice ra m rcap) tv G) := by
              have h := hR.out.under hB2
              exact ⟨by rw [raceK_no hat]; exact h.row, h.tab⟩
            have hB3 : Hid (Below lo w wr2) := hB.out.trans (hB2.mono hlw)
            go_wp2_with fail
            go_roundw
            case rel => exact ⟨i + 1, by go_num, by omega, hR3.out, hB3.out⟩
            case measure =>
              simp only [intOf]
              omega
      · obtain rfl : j = n := by omega
        go_wp2_with fail
        exact bodyPost_ret (v := .tuple #[.slice ra m rcap, .int .i64 0]) (by simp [results, Try.results17, go_sem]) rfl (hpost.out _ _ hB ⟨_, rfl, by rw [hn.out]; exact hR.row⟩)
  · have hne : (chk evs clients != 0) = true := by simp [h0]
    have hfin := hid_of (show RacesPost w evs clients (.returned (.tuple #[.slice none 0 0, .int .i64 (chk evs clients)])) w from ⟨Below.refl _ w, .inl ⟨h0, rfl⟩⟩)
    go_enter Try.func17, Try.ntmps17
    go_wp2_with fail
    refine hck.out.mono ?_
    rintro e Z ⟨rfl, hz⟩
    obtain rfl : w = Z := hz.symm
    clear hz hck
    go_wp2_with fail
    exact bodyPost_ret (v := .tuple #[.slice none 0 0, .int .i64 (chk evs clients)]) (by simp [results, Try.results17, go_sem]) rfl hfin.out
end Go.Proofs.Ytdgdfpgekccibab
