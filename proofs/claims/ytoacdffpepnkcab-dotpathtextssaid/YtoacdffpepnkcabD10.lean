import Derived.Test.YtoacdffpepnkcabD9
/-! The law DotpathTexts. -/
namespace Go.Proofs.Ytoacdffpepnkcab
open Go Go.RowKit

theorem parseF_len (T : ByteArray) : ∀ f n l, l.length ≤ 16 → (parseF T f n l).1.length ≤ 16
  | 0, n, l, h => by simp [parseF]
  | f + 1, n, l, h => by
    unfold parseF
    by_cases hc : l.length = 16 ∨ seg (T.extract n (next T n)) = false
    · rw [if_pos hc]; simp
    · rw [if_neg hc]
      have hlt : (l ++ [T.extract n (next T n)]).length ≤ 16 := by simp; omega
      by_cases hl : next T n < T.size
      · rw [if_pos hl]; exact parseF_len T f _ _ hlt
      · rw [if_neg hl]; exact hlt
theorem parseR_len (T : ByteArray) : (parseR T 0 []).1.length ≤ 16 := parseF_len T _ _ _ (by simp)
theorem same_self (l : List ByteArray) : same l l = true := by simp [same]

theorem owns_put {w : World} {lo g cap n : Nat} {l : List ByteArray} (h : w.ownsRow lo 9 1 (.slice (some ⟨g, 0, none⟩) n cap) n (strs l)) (q : Nat) (hq : q < n) :
    ∃ x, w.cell? ⟨g, q, none⟩ = some x ∧ w.frozen? ⟨g, q, none⟩ = false ∧ ∀ s, (w.setCell ⟨g, q, none⟩ (.string s)).ownsRow lo 9 1 (.slice (some ⟨g, 0, none⟩) n cap) n (strs (l.set q s)) := by
  obtain ⟨h1, h2⟩ := h
  rcases h2 with ⟨hv, _⟩ | ⟨g', cap', cur, hv, hg, hh, hc, hm, hs, hr⟩
  · cases hv
  · cases hv
    have hqs : q < cur.size := by omega
    refine ⟨cur[q], ?_, ?_, fun s => ⟨?_, .inr ⟨g, cap, cur.set! q (.string s), rfl, hg, ?_, hc, hm, by simpa using hs, ?_⟩⟩⟩
    · simp [World.cell?, hh, hqs]
    · simp [World.frozen?, hh]
    · simpa [strs] using h1
    · exact heap_setCell_same w g q cur 9 _ hh
    · unfold strs
      rw [List.map_set, ← show strs l = l.map Value.string from rfl, ← hr]
      simp [List.take_set]
set_option maxHeartbeats 4000000 in
set_option maxRecDepth 100000 in
theorem texts_true (T S : ByteArray) (v : Value) (l : List ByteArray) (w : World) (hT : T.size ≤ 140737488355328) (hSz : S.size ≤ 9223372036854775806) (hP : Reads w v l) (hl : l.length * 16 + 48 ≤ 140737488355328) (hZ : Hid (Sized l)) :
    Calls Try.prog 4 #[.string T, v, .string S] w fun e w' => e = .returned (.bool true) ∧ Below w.heap.size w w' := by
  have hlen := parseR_len T
  have hp1 := fun W => hid_of (parse_any T hT W)
  have hp2 := fun W => hid_of (rparse_any T hT W)
  generalize parseR T 0 [] = R at *
  obtain ⟨L, E, M⟩ := R
  simp only at hlen
  go_enter Try.func4, Try.ntmps4
  go_wp2_with fail
  go_fit (hp1 _).out
  rintro e w1 ⟨sl1, rfl, ho1, hb1⟩
  obtain ⟨a1, c1, rfl⟩ := ownsRow_slice ho1
  go_wp2_with fail
  go_fit (hp2 _).out
  rintro e w2 ⟨sl2, rfl, ho2, hb2⟩
  obtain ⟨a2, c2, rfl⟩ := ownsRow_slice ho2
  clear hp2
  have hB2 : Below w.heap.size w w2 := hb1.trans (hb2.mono hb1.size)
  have hP2 := hid_of (hP.keep hB2)
  have how := hid_of (own_any v l w2 hP2.out hl)
  obtain ⟨av, cv, rfl, -⟩ := id hP
  replace hP := hid_of hP
  go_wp2_with fail
  go_fit how.out
  clear how
  rintro e w3 ⟨v3, rfl, hO3, hb3⟩
  have hpr := hid_of (print_any v3 l w3 hO3.reads (by omega))
  have hO3' := hid_of hO3
  obtain ⟨g3, cap3, rfl, -⟩ := hO3
  have hB3 : Below w.heap.size w w3 := hB2.trans (hb3.mono hB2.size)
  go_wp2_with fail
  go_fit hpr.out
  clear hpr
  rintro e w4 ⟨rfl, hb4⟩
  have hB4 : Below w.heap.size w w4 := hB3.trans (hb4.mono hB3.size)
  have hrp := hid_of (rprint_any _ l w4 (hP.out.keep hB4) (by omega) hZ)
  obtain ⟨D, G, hD⟩ : ∃ D G, printV l = .tuple #[.string D, .int .i64 G] := ⟨_, _, rfl⟩
  rw [hD] at hrp ⊢
  clear hD
  go_wp2_with fail
  go_fit hrp.out
  clear hrp
  rintro e w5 ⟨rfl, hw5⟩
  subst w5
  have hix := hid_of (index_any S hSz w4)
  have hrx := fun W => hid_of (rindex_any S hSz W)
  obtain ⟨I, J, hI⟩ : ∃ I J, idxV S = .tuple #[.int .i64 I, .bool J] := ⟨_, _, rfl⟩
  rw [hI] at hix hrx
  clear hI
  go_wp2_with fail
  go_fit hix.out
  clear hix
  rintro e w5 ⟨rfl, hb5⟩
  have hB5 : Below w.heap.size w w5 := hB4.trans (hb5.mono hB4.size)
  go_wp2_with fail
  go_fit (hrx _).out
  clear hrx
  rintro e w6 ⟨rfl, hw6⟩
  subst w6
  have hnn : ∀ e W, Hid _ := fun e W => hid_of (num_any e W)
  have ho15 : w5.ownsRow w.heap.size 9 1 (.slice a1 L.length c1) L.length (strs L) := ownsRow_below ho1 ((hb2.trans (hb3.mono hb2.size)).trans ((hb4.mono ((hb2.trans (hb3.mono hb2.size)).size)).trans (hb5.mono (((hb2.trans (hb3.mono hb2.size)).trans (hb4.mono ((hb2.trans (hb3.mono hb2.size)).size))).size))))
  have hb25 : Below w2.heap.size w2 w5 := (hb3.trans (hb4.mono hb3.size)).trans (hb5.mono (hb3.trans (hb4.mono hb3.size)).size)
  have ho25 : w5.ownsRow w1.heap.size 9 1 (.slice a2 L.length c2) L.length (strs L) := ownsRow_below ho2 hb25
  have hO5 := hid_of (hO3'.out.keep (hb4.trans (hb5.mono hb4.size)))
  have hsz1 : w1.heap.size ≤ w5.heap.size := by have := hb2.size; have := hb25.size; omega
  have hte := hid_of (texts_any _ _ L L w5 (reads_own ho15) (reads_own ho25) (by omega) (by omega))
  rw [same_self] at hte
  have hke := fun q => hid_of (kept_any w2 _ _ l (w5.drewN q) (show Owned w2 l _ (w5.drewN q) from hO5.out) ((hP.out.keep hB5).drewN q) hl)
  replace ho15 := hid_of ho15
  replace ho25 := hid_of ho25
  clear ho2 hO3' hb25 hb3 hb4 hb5 hb2 hP2 hB2 hB3 hB4
  go_wp2_with fail
  go_fit (hnn _ _).out
  rintro e w6 ⟨rfl, hw6⟩
  subst w6
  go_wp2_with fail
  go_fit hte.out
  clear hte
  rintro e w6 ⟨rfl, q6, hw6⟩
  subst hw6
  go_wp2_with fail
  go_fit (hnn _ _).out
  clear hnn
  rintro e w6 ⟨rfl, hw6⟩
  subst hw6
  go_wp2_with fail
  go_fit (hke _).out
  clear hke
  rintro e w6 ⟨rfl, q7, hw6⟩
  subst hw6
  go_wp2_with fail
  go_fit (live_true _)
  rintro e w6 ⟨rfl, hb6⟩
  have hB6 : Below w.heap.size w w6 := hB5.trans ((show Below w5.heap.size w5 w6 from ⟨hb6.os, hb6.tape, hb6.output, hb6.size, hb6.block⟩).mono hB5.size)
  have ho16 : w6.ownsRow w.heap.size 9 1 (.slice a1 L.length c1) L.length (strs L) := ownsRow_keep ho15.out fun _ hg => hb6.block _ (ownsRow_ge ho15.out hg).2
  have ho26 : w6.ownsRow w1.heap.size 9 1 (.slice a2 L.length c2) L.length (strs L) := ownsRow_keep ho25.out fun _ hg => hb6.block _ (ownsRow_ge ho25.out hg).2
  have hs6 : w1.heap.size ≤ w6.heap.size := by have : w5.heap.size ≤ w6.heap.size := hb6.size; omega
  clear hb6 ho15 ho25 hO5
  go_wp2_with fail
  go_fit (hp1 _).out
  rintro e w7 ⟨sl3, rfl, ho37, hb7⟩
  obtain ⟨a3, c3, rfl⟩ := ownsRow_slice ho37
  have hB7 : Below w.heap.size w w7 := hB6.trans (hb7.mono hB6.size)
  have ho17 := ownsRow_below ho16 hb7
  have ho27 := ownsRow_below ho26 hb7
  have hdiff : ∀ g, (Value.slice a1 L.length c1).ownBlock = some g → (Value.slice a2 L.length c2).ownBlock ≠ some g ∧ (Value.slice a3 L.length c3).ownBlock ≠ some g := fun g hg => by
    have h1 := (ownsRow_ge ho1 hg).2
    exact ⟨fun h2 => by have := (ownsRow_ge ho27 h2).1; omega, fun h3 => by have := (ownsRow_ge ho37 h3).1; omega⟩
  replace hdiff := hid_of hdiff
  clear hp1 ho16 ho26 hb7 hB6 hb1 ho1
  go_wp2_with fail
  go_loopw [25] (fun i wr => ∃ (q : Nat) (L1 : List ByteArray), q ≤ L.length ∧ i = .int .i64 q ∧ L1.length = L.length ∧ wr.ownsRow w.heap.size 9 1 (.slice a1 L.length c1) L.length (strs L1) ∧ Below w.heap.size w wr ∧ wr.ownsRow w1.heap.size 9 1 (.slice a2 L.length c2) L.length (strs L) ∧ wr.ownsRow w6.heap.size 9 1 (.slice a3 L.length c3) L.length (strs L)) (fun i _ => L.length - (intOf i).toNat)
  case atStart => exact ⟨0, L, Nat.zero_le _, rfl, rfl, ho17, hB7, ho27, ho37⟩
  case round =>
    obtain ⟨q, L1, hq, rfl, hL1, h1, hb, h2, h3⟩ := hrel
    clear ho17 ho27 ho37 hB7
    by_cases hlt : q < L.length
    · obtain ⟨g, cap, hv, hgg, hgl⟩ := h1.form (by omega)
      cases hv
      obtain ⟨x, hx, hfz, hnew⟩ := owns_put h1 q hlt
      have hd := hdiff.out g rfl
      have hz1 : ((q : Int) < (L.length : Int)) := by omega
      go_wp2_with fail
      go_roundw
      case rel => exact ⟨q + 1, L1.set q ⟨#[115, 112, 111, 105, 108, 116]⟩, by omega, by simp, by simpa using hL1, hnew _, hb.setCell hgg _, ownsRow_setCell_other h2 hd.1 _, ownsRow_setCell_other h3 hd.2 _⟩
      case measure => simp [intOf]; omega
    · have hz2 : ¬ ((q : Int) < (L.length : Int)) := by omega
      obtain ⟨i9, hi9, hz90, hz91, hz92⟩ := info_parts A9
      go_wp2_with fail
      go_loopw [7, 26] (fun p i wx => ∃ (m : Nat) (L2 : List ByteArray), m ≤ 8 ∧ i = .int .i64 m ∧ L2.length = L.length + m ∧ wx.ownsRow w.heap.size 9 1 p L2.length (strs L2) ∧ Below w.heap.size w wx ∧ wx.ownsRow w1.heap.size 9 1 (.slice a2 L.length c2) L.length (strs L) ∧ wx.ownsRow w6.heap.size 9 1 (.slice a3 L.length c3) L.length (strs L) ∧ Hid (∀ g, p.ownBlock = some g → (Value.slice a2 L.length c2).ownBlock ≠ some g ∧ (Value.slice a3 L.length c3).ownBlock ≠ some g)) (fun _ i _ => 8 - (intOf i).toNat)
      case atStart => exact ⟨0, L1, by omega, rfl, by omega, by rw [hL1]; exact h1, hb, h2, h3, hdiff⟩
      case round =>
        clear h1 hb h2 h3 hdiff
        obtain ⟨m, L2, hm, rfl, hL2, h1, hb, h2, h3, hdf⟩ := hrel
        obtain ⟨a8, c8, rfl⟩ := ownsRow_slice h1
        have hL24 : L2.length ≤ 24 := by omega
        replace hL2 := hid_of hL2
        by_cases hm8 : m < 8
        · have hz3 : ((m : Int) < 8) := by omega
          have hdz : decide ((m : Int) < 8) = true := decide_eq_true hz3
          go_wp2_with (at_builtin; refine wpList_append_lies _ rfl _ _ 22 rfl w.heap.size 9 i9 _ 1 16 Try.underlying22 hi9 hz90 hz91 hz92 rfl (by decide) _ L2.length (strs L2) rfl (h1.alloc _) _ 1 1 [.string ⟨#[103, 114, 111, 119, 110]⟩] rfl rfl (World.news_of_block (heap_alloc_new wr _)) (one_string _) (by decide) (by unfold maxLen; omega) (by omega) (by have := hb.size; simp only [World.size_alloc]; omega) _ rfl ?_; intro g cap w8 hown8 hgrow8 hat8 hlt8)
          have hb8 : Below w.heap.size w w8 := (hb.alloc hb.size _).trans (grown_below hgrow8 (by have := hb.size; simp; omega) (fun g hg => (ownsRow_ge h1 hg).1))
          have hfar : ∀ k, k < wr.heap.size → (Value.slice a8 L2.length c8).ownBlock ≠ some k → w8.heap[k]? = wr.heap[k]? := fun k hk hn =>
            (hgrow8.block k (by simp only [World.size_alloc]; omega) (fun e => hn e.symm)).trans (Below.heap_alloc _ _ _ hk)
          have hnot : ∀ {lo : Nat} {u : Value} {n : Nat} {xs : List Value}, wr.ownsRow lo 9 1 u n xs → (∀ g, (Value.slice a8 L2.length c8).ownBlock = some g → u.ownBlock ≠ some g) → w8.ownsRow lo 9 1 u n xs ∧ u.ownBlock ≠ some g := fun ho hne =>
            ⟨ownsRow_keep ho fun k hk => hfar k (ownsRow_ge ho hk).2 (fun e => hne k e hk), fun e => by
              rcases hat8 with h | h
              · exact hne g h e
              · have := (ownsRow_ge ho e).2
                simp only [World.size_alloc] at h
                omega⟩
          have k2 := hnot h2 (fun g hg => (hdf.out g hg).1)
          have k3 := hnot h3 (fun g hg => (hdf.out g hg).2)
          go_roundw
          case rel => exact ⟨m + 1, L2 ++ [⟨#[103, 114, 111, 119, 110]⟩], by omega, by simp, by have := hL2.out; simp; omega, by simpa [strs_snoc] using hown8, hb8, k2.1, k3.1, fun g' hg => by
            cases hg
            exact ⟨k2.2, k3.2⟩⟩
          case measure => simp [intOf]; omega
        · have hz3 : ¬ ((m : Int) < 8) := by omega
          have hdz : decide ((m : Int) < 8) = false := decide_eq_false hz3
          have hte := hid_of (texts_any _ _ L L wr (reads_own h3) (reads_own h2) (by omega) (by omega))
          rw [same_self] at hte
          go_wp2_with fail
          go_fit hte.out
          clear hte
          rintro e w8 ⟨rfl, q8, hw8⟩
          subst hw8
          go_wp2_with fail
          go_ret
          exact ⟨rfl, below_drewN hb q8⟩
end Go.Proofs.Ytoacdffpepnkcab
