import Derived.Test.YtdgdfpgekccibaaKL
import Derived.Test.YtdgdfpgekccibaaFS
/-! ClocksLocked. -/
namespace Go.Proofs.Ytdgdfpgekccibaa
open Go Go.ChangeShapes Go.WideShapes Go.ChangeAt Go.RowKit
/-- Numbers in memory. -/
def IntsAt (w : World) (a : Option Addr) (l : List Int) : Prop := ∀ (j : Nat) x, l[j]? = some x → ∃ b o, a = some ⟨b, o, none⟩ ∧ w.cell? ⟨b, o + j, none⟩ = some (.int .i64 x)
theorem IntsAt.keep {w w' : World} {a : Option Addr} {l : List Int} (h : IntsAt w a l) (hb : Below w.heap.size w w') : IntsAt w' a l := fun j x hx => by
  obtain ⟨b, o, h1, h2⟩ := h j x hx
  exact ⟨b, o, h1, stay hb h2⟩
/-- Events that were appended, as the rest reads them. -/
theorem row_evs {lo : Nat} {w : World} {a : Option Addr} {cap : Nat} {evs : List Ev} (h : w.ownsRow lo 30 4 (.slice a evs.length cap) evs.length (flatE evs)) : EvsAt w a evs ∧ evs.length ≤ cap ∧ cap ≤ maxLen := by
  have h' := h
  obtain ⟨-, h2⟩ := h'
  rcases h2 with ⟨h1, h2⟩ | ⟨g', c', cur, h1, h2, h3, h4, h5, _⟩
  · simp only [Value.slice.injEq] at h1
    refine ⟨fun j e he => ?_, by omega, by unfold maxLen; omega⟩
    rw [List.eq_nil_of_length_eq_zero h2] at he
    simp at he
  · cases h1
    exact ⟨evsAt_of (Array.getElem?_eq_some_iff.1 h3).1 (fun j u hu => ownsRow_cell h hu), h4, h5⟩
theorem row_own {lo n g : Nat} {w : World} {e : TypeId} {v : Value} {xs : List Value} (h : w.ownsRow lo e 4 v n xs) (he : v.ownBlock = some g) : lo ≤ g := by
  obtain ⟨-, h2⟩ := h
  rcases h2 with ⟨h1, _⟩ | ⟨g', c', cur, h1, h2, _⟩
  · rw [h1] at he; cases he
  · rw [h1] at he; cases he; exact h2
theorem row_cap {lo n : Nat} {w : World} {e : TypeId} {a : Option Addr} {cap : Nat} {xs : List Value} (h : w.ownsRow lo e 4 (.slice a n cap) n xs) : n ≤ cap := by
  obtain ⟨a', cap', h1, h2, _⟩ := ownsRow_form h
  cases h1
  exact h2
theorem ok_snoc {clients : Int} {evs : List Ev} {f : Ev} (h : ∀ e ∈ evs, okEv clients e = true ∧ I64 e.o ∧ I64 e.n) (hf : okEv clients f = true ∧ I64 f.o ∧ I64 f.n) : ∀ e ∈ evs ++ [f], okEv clients e = true ∧ I64 e.o ∧ I64 e.n := fun e he => by
  rcases List.mem_append.1 he with he | he
  · exact h e he
  · simp at he
    subst he
    exact hf
theorem ok_ev {clients c k o n : Int} (h1 : 0 ≤ c) (h2 : c < clients) (h3 : 1 ≤ k) (h4 : k ≤ 11) (h5 : -10 ≤ o) (h6 : o ≤ 10) (h7 : -10 ≤ n) (h8 : n ≤ 10) : okEv clients ⟨c, k, o, n⟩ = true ∧ I64 o ∧ I64 n := by
  refine ⟨?_, ?_, ?_⟩
  · unfold okEv
    simp
    omega
  · unfold I64; omega
  · unfold I64; omega
theorem lock_bd {n i : Nat} (hi : i < 40) (h : n ≤ 5 * i + 4) : n + 1 ≤ maxLen ∧ (n + 1) * 32 ≤ 140737488355328 := by
  unfold maxLen
  omega
theorem tmod_c {t c : Int} (h1 : 1 ≤ c) (h2 : c ≤ 16) : -16 < t.tmod c ∧ t.tmod c < 16 ∧ 0 ≤ (t.tmod c + c).tmod c ∧ (t.tmod c + c).tmod c < c := by
  have h3 : t.tmod c < c := Int.tmod_lt_of_pos _ (by omega)
  have h4 : -c < t.tmod c := Int.lt_tmod_of_pos _ (by omega)
  have h5 : 0 ≤ t.tmod c + c := by omega
  exact ⟨by omega, by omega, Int.tmod_nonneg _ h5, Int.tmod_lt_of_pos _ (by omega)⟩
set_option maxHeartbeats 8000000 in
set_option maxRecDepth 100000 in
theorem locked_true (ta ka : Option Addr) (tc kc : Nat) (turns kinds : List Int) (clients : Int) (w : World) (hT : IntsAt w ta turns) (hK : IntsAt w ka kinds) (ht : turns.length ≤ tc) (hk : kinds.length ≤ kc) :
    Calls Try.prog 4 #[.slice ta turns.length tc, .slice ka kinds.length kc, .int .i64 clients] w fun e w' => e = .returned (.bool true) ∧ Below w.heap.size w w' := by
  obtain ⟨nt, hnt⟩ : ∃ n, Hid (turns.length = n) := ⟨_, rfl⟩
  obtain ⟨nk, hnk⟩ : ∃ n, Hid (kinds.length = n) := ⟨_, rfl⟩
  rw [hnt.out] at ht ⊢
  rw [hnk.out] at hk ⊢
  have hk' := hk
  clear hk'
  have hlv := hid_of (live_any w)
  replace hT := hid_of hT
  replace hK := hid_of hK
  go_enter Try.func4, Try.ntmps4
  by_cases q1 : clients < 1
  · go_wp2_with fail
    refine hlv.out.mono ?_
    rintro e Z ⟨rfl, hZ⟩
    go_wp2_with fail
    exact bodyPost_ret (v := .bool true) (by simp [results, Try.results4, go_sem]) rfl ⟨rfl, hZ⟩
  by_cases q2 : 16 < clients
  · go_wp2_with fail
    refine hlv.out.mono ?_
    rintro e Z ⟨rfl, hZ⟩
    go_wp2_with fail
    exact bodyPost_ret (v := .bool true) (by simp [results, Try.results4, go_sem]) rfl ⟨rfl, hZ⟩
  by_cases q3 : 40 < nt
  · go_wp2_with fail
    refine hlv.out.mono ?_
    rintro e Z ⟨rfl, hZ⟩
    go_wp2_with fail
    exact bodyPost_ret (v := .bool true) (by simp [results, Try.results4, go_sem]) rfl ⟨rfl, hZ⟩
  clear hlv
  obtain ⟨ri, hri, hri1, hri2, hri3⟩ := ev_info
  go_wp2_with fail
  go_loopw [7, 8] (fun v i wr => ∃ (m : Nat) (evs : List Ev) (a : Option Addr) (cap : Nat), v = .slice a evs.length cap ∧ i = .int .i64 m ∧ m ≤ nt ∧ evs.length ≤ 5 * m ∧ Between evs ∧ (∀ e ∈ evs, okEv clients e = true ∧ I64 e.o ∧ I64 e.n) ∧ wr.ownsRow w.heap.size 30 4 (.slice a evs.length cap) evs.length (flatE evs) ∧ Below w.heap.size w wr) (fun _ i _ => nt - (intOf i).toNat)
  case atStart => exact ⟨0, [], none, 0, rfl, rfl, Nat.zero_le _, Nat.le_refl _, between_nil, (fun e he => by cases he), ⟨by simp [flatE], .inl ⟨rfl, rfl⟩⟩, Below.refl _ w⟩
  case round =>
    obtain ⟨m, evs, a, cap, rfl, rfl, hmn, hlen, hbt, hok, hrow, hB⟩ := hrel
    obtain ⟨n, hn⟩ : ∃ n, Hid (evs.length = n) := ⟨_, rfl⟩
    by_cases hm : m < nt
    · obtain ⟨t, htm⟩ : ∃ t, Hid (turns[m]? = some t) := ⟨turns[m]'(by have := hnt.out; omega), List.getElem?_eq_getElem (by have := hnt.out; omega)⟩
      obtain ⟨b, o, hba, hbc⟩ := (hT.out.keep hB) m t htm.out
      subst hba
      obtain ⟨hr1, hr2, hr3, hr4⟩ := tmod_c (t := t) (c := clients) (by omega) (by omega)
      obtain ⟨c, hc⟩ : ∃ c : Int, Hid ((t.tmod clients + clients).tmod clients = c) := ⟨_, rfl⟩
      have hc0 : 0 ≤ c ∧ c < clients := by rw [← hc.out]; exact ⟨hr3, hr4⟩
      obtain ⟨hc1, hc2⟩ := hc0
      rw [hn.out] at hlen hrow ⊢
      replace hrow := hid_of hrow
      replace hbt := hid_of hbt
      replace hok := hid_of hok
      have hBs := hid_of hB.size
      replace hB := hid_of hB
      obtain ⟨hb1, hb2⟩ := lock_bd (n := n) (i := m) (by omega) (by omega)
      replace hb1 := hid_of hb1
      replace hb2 := hid_of hb2
      go_upto_region 8 with fail
      rw [hc.out]
      clear hr1 hr2 hr3 hr4 hbc
      have hone : Hid (∀ u ∈ [Value.int .i64 c, .int .i64 1, .int .i64 1, .int .i64 0], u.oneCell' = true) := fun u hu => flatE_one [⟨c, 1, 1, 0⟩] u (by simpa [flatE, cellsE] using hu)
      have hsz : Hid (w.heap.size ≤ (wr.alloc (.cells #[.int .i64 c, .int .i64 1, .int .i64 1, .int .i64 0] 30)).heap.size) := Nat.le_trans hBs.out (Nat.le_of_lt (World.size_alloc_lt wr _))
      go_upto_region 9 with (at_builtin; refine wpList_append_lies _ rfl _ _ 26 rfl w.heap.size 30 ri _ 4 32 ev_u hri hri1 hri2 hri3 rfl (by decide) _ n (flatE evs) rfl (hrow.out.alloc _) _ 1 1 [.int .i64 c, .int .i64 1, .int .i64 1, .int .i64 0] rfl rfl (World.news_of_block (heap_alloc_new wr _)) hone.out (by decide) hb1.out hb2.out hsz.out _ rfl ?_; intro g1 cp1 W1 r1 r2 r3 r4; replace r1 := hid_of r1; replace r2 := hid_of r2; clear r3 r4)
      have hB1 : Hid (Below w.heap.size w W1) := (hB.out.alloc hBs.out _).grown r2.out (by have := hBs.out; simp only [World.size_alloc]; omega) (fun j e => row_own hrow.out e)
      have hrow1 : Hid (W1.ownsRow w.heap.size 30 4 (.slice (some ⟨g1, 0, none⟩) (n + 1) cp1) (n + 1) (flatE (evs ++ [⟨c, 1, 1, 0⟩]))) := by
        unfold Hid
        rw [flatE_snoc]
        exact r1.out
      have hin1 : Hid (Within (evs ++ [⟨c, 1, 1, 0⟩]) c.toNat) := hbt.out.lock c
      have hl1 : Hid ((evs ++ [(⟨c, 1, 1, 0⟩ : Ev)]).length = n + 1) := by unfold Hid; rw [List.length_append, hn.out]; rfl
      have hok1 : Hid (∀ e ∈ evs ++ [(⟨c, 1, 1, 0⟩ : Ev)], okEv clients e = true ∧ I64 e.o ∧ I64 e.n) := ok_snoc hok.out (ok_ev (k := 1) (o := 1) (n := 0) hc1 hc2 (by omega) (by omega) (by omega) (by omega) (by omega) (by omega))
      clear r1 r2 hrow hbt hok hone hsz hB hb1 hb2 hBs
      go_wp2_with fail
      go_loopw [7, 10] (fun v kk wr' => ∃ (k n' : Nat) (evs' : List Ev) (g cp : Nat), v = .slice (some ⟨g, 0, none⟩) n' cp ∧ kk = .int .i64 k ∧ k ≤ 3 ∧ n' ≤ 5 * m + 1 + k ∧ evs'.length = n' ∧ Within evs' c.toNat ∧ (∀ e ∈ evs', okEv clients e = true ∧ I64 e.o ∧ I64 e.n) ∧ wr'.ownsRow w.heap.size 30 4 (.slice (some ⟨g, 0, none⟩) n' cp) n' (flatE evs') ∧ Below w.heap.size w wr') (fun _ kk _ => 3 - (intOf kk).toNat)
      case atStart => exact ⟨0, n + 1, _, g1, cp1, rfl, rfl, Nat.zero_le _, by omega, hl1.out, hin1.out, hok1.out, hrow1.out, hB1.out⟩
      case round =>
        clear hB1 hrow1 hin1 hl1 hok1
        obtain ⟨k, n', evs', g, cp, rfl, rfl, hk3, hlen', hl', hin, hok, hrow, hB⟩ := hrel
        have hBs := hid_of hB.size
        have hcp : n' ≤ cp := row_cap hrow
        replace hin := hid_of hin
        replace hok := hid_of hok
        replace hrow := hid_of hrow
        replace hl' := hid_of hl'
        by_cases hk' : k < nk ∧ k < 3
        · obtain ⟨hk1, hk2⟩ := hk'
          obtain ⟨x, hx⟩ : ∃ x, Hid (kinds[k]? = some x) := ⟨kinds[k]'(by have := hnk.out; omega), List.getElem?_eq_getElem (by have := hnk.out; omega)⟩
          obtain ⟨b2, o2, hba2, hbc2⟩ := (hK.out.keep hB) k x hx.out
          subst hba2
          replace hB := hid_of hB
          obtain ⟨hb1, hb2⟩ := lock_bd (n := n') (i := m) (by omega) (by omega)
          replace hb1 := hid_of hb1
          replace hb2 := hid_of hb2
          obtain ⟨sm, hsm⟩ : ∃ sm, IntKind.i64.wrap (x + (m : Int)) = sm := ⟨_, rfl⟩
          by_cases hz : sm.tmod 2 = 0
          · have hz' : (sm.tmod 2 == 0) = true := by simp [hz]
            go_upto_region 15 with fail
            have hone : Hid (∀ u ∈ [Value.int .i64 c, .int .i64 9, .int .i64 2, .int .i64 (k : Int)], u.oneCell' = true) := fun u hu => flatE_one [⟨c, 9, 2, (k : Int)⟩] u (by simpa [flatE, cellsE] using hu)
            have hsz : Hid (w.heap.size ≤ (wr.alloc (.cells #[.int .i64 c, .int .i64 9, .int .i64 2, .int .i64 (k : Int)] 30)).heap.size) := Nat.le_trans hBs.out (Nat.le_of_lt (World.size_alloc_lt wr _))
            go_upto_region 11 with (at_builtin; refine wpList_append_lies _ rfl _ _ 26 rfl w.heap.size 30 ri _ 4 32 ev_u hri hri1 hri2 hri3 rfl (by decide) _ n' (flatE evs') rfl (hrow.out.alloc _) _ 1 1 [.int .i64 c, .int .i64 9, .int .i64 2, .int .i64 (k : Int)] rfl rfl (World.news_of_block (heap_alloc_new wr _)) hone.out (by decide) hb1.out hb2.out hsz.out _ rfl ?_; intro g2 cp2 W2 r1 r2 r3 r4; replace r1 := hid_of r1; replace r2 := hid_of r2; clear r3 r4)
            have hB2 : Below w.heap.size w W2 := (hB.out.alloc hBs.out _).grown r2.out (by have := hBs.out; simp only [World.size_alloc]; omega) (fun j e => row_own hrow.out e)
            have hrow2 : W2.ownsRow w.heap.size 30 4 (.slice (some ⟨g2, 0, none⟩) (n' + 1) cp2) (n' + 1) (flatE (evs' ++ [⟨c, 9, 2, (k : Int)⟩])) := by
              rw [flatE_snoc]
              exact r1.out
            have hfin : Hid (∃ (k2 n2 : Nat) (evs2 : List Ev) (g cp : Nat), Value.slice (some ⟨g2, 0, none⟩) (n' + 1) cp2 = .slice (some ⟨g, 0, none⟩) n2 cp ∧ Value.int .i64 ((k : Int) + 1) = .int .i64 k2 ∧ k2 ≤ 3 ∧ n2 ≤ 5 * m + 1 + k2 ∧ evs2.length = n2 ∧ Within evs2 c.toNat ∧ (∀ e ∈ evs2, okEv clients e = true ∧ I64 e.o ∧ I64 e.n) ∧ W2.ownsRow w.heap.size 30 4 (.slice (some ⟨g, 0, none⟩) n2 cp) n2 (flatE evs2) ∧ Below w.heap.size w W2) :=
              ⟨k + 1, n' + 1, evs' ++ [⟨c, 9, 2, (k : Int)⟩], g2, cp2, rfl, by go_num, by omega, by omega, by rw [List.length_append, hl'.out]; rfl, hin.out.use 9 2 k, ok_snoc hok.out (ok_ev (k := 9) (o := 2) (n := (k : Int)) hc1 hc2 (by omega) (by omega) (by omega) (by omega) (by omega) (by omega)), hrow2, hB2⟩
            clear r1 r2 hrow2 hB2 hone hsz hrow
            go_wp2_with fail
            exact ⟨hfin.out, by simp [intOf]; omega⟩
          · have hz' : (sm.tmod 2 == 0) = false := by simp [hz]
            go_upto_region 15 with fail
            have hone : Hid (∀ u ∈ [Value.int .i64 c, .int .i64 8, .int .i64 2, .int .i64 (k : Int)], u.oneCell' = true) := fun u hu => flatE_one [⟨c, 8, 2, (k : Int)⟩] u (by simpa [flatE, cellsE] using hu)
            have hsz : Hid (w.heap.size ≤ (wr.alloc (.cells #[.int .i64 c, .int .i64 8, .int .i64 2, .int .i64 (k : Int)] 30)).heap.size) := Nat.le_trans hBs.out (Nat.le_of_lt (World.size_alloc_lt wr _))
            go_upto_region 11 with (at_builtin; refine wpList_append_lies _ rfl _ _ 26 rfl w.heap.size 30 ri _ 4 32 ev_u hri hri1 hri2 hri3 rfl (by decide) _ n' (flatE evs') rfl (hrow.out.alloc _) _ 1 1 [.int .i64 c, .int .i64 8, .int .i64 2, .int .i64 (k : Int)] rfl rfl (World.news_of_block (heap_alloc_new wr _)) hone.out (by decide) hb1.out hb2.out hsz.out _ rfl ?_; intro g2 cp2 W2 r1 r2 r3 r4; replace r1 := hid_of r1; replace r2 := hid_of r2; clear r3 r4)
            have hB2 : Below w.heap.size w W2 := (hB.out.alloc hBs.out _).grown r2.out (by have := hBs.out; simp only [World.size_alloc]; omega) (fun j e => row_own hrow.out e)
            have hrow2 : W2.ownsRow w.heap.size 30 4 (.slice (some ⟨g2, 0, none⟩) (n' + 1) cp2) (n' + 1) (flatE (evs' ++ [⟨c, 8, 2, (k : Int)⟩])) := by
              rw [flatE_snoc]
              exact r1.out
            have hfin : Hid (∃ (k2 n2 : Nat) (evs2 : List Ev) (g cp : Nat), Value.slice (some ⟨g2, 0, none⟩) (n' + 1) cp2 = .slice (some ⟨g, 0, none⟩) n2 cp ∧ Value.int .i64 ((k : Int) + 1) = .int .i64 k2 ∧ k2 ≤ 3 ∧ n2 ≤ 5 * m + 1 + k2 ∧ evs2.length = n2 ∧ Within evs2 c.toNat ∧ (∀ e ∈ evs2, okEv clients e = true ∧ I64 e.o ∧ I64 e.n) ∧ W2.ownsRow w.heap.size 30 4 (.slice (some ⟨g, 0, none⟩) n2 cp) n2 (flatE evs2) ∧ Below w.heap.size w W2) :=
              ⟨k + 1, n' + 1, evs' ++ [⟨c, 8, 2, (k : Int)⟩], g2, cp2, rfl, by go_num, by omega, by omega, by rw [List.length_append, hl'.out]; rfl, hin.out.use 8 2 k, ok_snoc hok.out (ok_ev (k := 8) (o := 2) (n := (k : Int)) hc1 hc2 (by omega) (by omega) (by omega) (by omega) (by omega) (by omega)), hrow2, hB2⟩
            clear r1 r2 hrow2 hB2 hone hsz hrow
            go_wp2_with fail
            exact ⟨hfin.out, by simp [intOf]; omega⟩
        · have hor : nk ≤ k ∨ (k < nk ∧ 3 ≤ k) := by omega
          obtain ⟨hb1, hb2⟩ := lock_bd (n := n') (i := m) (by omega) (by omega)
          replace hb1 := hid_of hb1
          replace hb2 := hid_of hb2
          have hone : Hid (∀ u ∈ [Value.int .i64 c, .int .i64 2, .int .i64 1, .int .i64 0], u.oneCell' = true) := fun u hu => flatE_one [⟨c, 2, 1, 0⟩] u (by simpa [flatE, cellsE] using hu)
          have hsz : Hid (w.heap.size ≤ (wr.alloc (.cells #[.int .i64 c, .int .i64 2, .int .i64 1, .int .i64 0] 30)).heap.size) := Nat.le_trans hBs.out (Nat.le_of_lt (World.size_alloc_lt wr _))
          replace hB := hid_of hB
          clear hk'
          have hgo : Hid (∀ (g2 cp2 : Nat) (W2 : World), W2.ownsRow w.heap.size 30 4 (.slice (some ⟨g2, 0, none⟩) (n' + 1) cp2) (n' + 1) (flatE evs' ++ [.int .i64 c, .int .i64 2, .int .i64 1, .int .i64 0]) → (wr.alloc (.cells #[.int .i64 c, .int .i64 2, .int .i64 1, .int .i64 0] 30)).grownBy W2 (Value.slice (some ⟨g, 0, none⟩) n' cp).ownBlock → ∃ (m2 : Nat) (evs : List Ev) (a : Option Addr) (cap : Nat), Value.slice (some ⟨g2, 0, none⟩) (n' + 1) cp2 = .slice a evs.length cap ∧ Value.int .i64 ((m : Int) + 1) = .int .i64 m2 ∧ m2 ≤ nt ∧ evs.length ≤ 5 * m2 ∧ Between evs ∧ (∀ e ∈ evs, okEv clients e = true ∧ I64 e.o ∧ I64 e.n) ∧ W2.ownsRow w.heap.size 30 4 (.slice a evs.length cap) evs.length (flatE evs) ∧ Below w.heap.size w W2) := fun g2 cp2 W2 r1 r2 => by
            have hl2 : (evs' ++ [(⟨c, 2, 1, 0⟩ : Ev)]).length = n' + 1 := by rw [List.length_append, hl'.out]; rfl
            refine ⟨m + 1, evs' ++ [⟨c, 2, 1, 0⟩], some ⟨g2, 0, none⟩, cp2, by rw [hl2], by go_num, by omega, by rw [hl2]; omega, hin.out.unlock, ok_snoc hok.out (ok_ev (k := 2) (o := 1) (n := 0) hc1 hc2 (by omega) (by omega) (by omega) (by omega) (by omega) (by omega)), ?_, (hB.out.alloc hBs.out _).grown r2 (by have := hBs.out; simp only [World.size_alloc]; omega) (fun j e => row_own hrow.out e)⟩
            rw [hl2, flatE_snoc]
            exact r1
          rcases hor with hor | ⟨hor, hor3⟩
          · go_wp2_with (at_builtin; refine wpList_append_lies _ rfl _ _ 26 rfl w.heap.size 30 ri _ 4 32 ev_u hri hri1 hri2 hri3 rfl (by decide) _ n' (flatE evs') rfl (hrow.out.alloc _) _ 1 1 [.int .i64 c, .int .i64 2, .int .i64 1, .int .i64 0] rfl rfl (World.news_of_block (heap_alloc_new wr _)) hone.out (by decide) hb1.out hb2.out hsz.out _ rfl ?_; intro g2 cp2 W2 r1 r2 r3 r4; replace r1 := hid_of r1; replace r2 := hid_of r2; clear r3 r4)
            exact ⟨hgo.out g2 cp2 W2 r1.out r2.out, by simp [intOf]; omega⟩
          · go_wp2_with (at_builtin; refine wpList_append_lies _ rfl _ _ 26 rfl w.heap.size 30 ri _ 4 32 ev_u hri hri1 hri2 hri3 rfl (by decide) _ n' (flatE evs') rfl (hrow.out.alloc _) _ 1 1 [.int .i64 c, .int .i64 2, .int .i64 1, .int .i64 0] rfl rfl (World.news_of_block (heap_alloc_new wr _)) hone.out (by decide) hb1.out hb2.out hsz.out _ rfl ?_; intro g2 cp2 W2 r1 r2 r3 r4; replace r1 := hid_of r1; replace r2 := hid_of r2; clear r3 r4)
            exact ⟨hgo.out g2 cp2 W2 r1.out r2.out, by simp [intOf]; omega⟩
    · obtain rfl : m = nt := by omega
      obtain ⟨hE, hcp, hmx⟩ := row_evs hrow
      have hch : chk evs clients = 0 := by
        unfold chk
        rw [if_neg (by omega), if_neg (by omega), if_pos]
        rw [List.all_eq_true]
        exact fun e he => (hok e he).1
      have hrc := races_any a cap evs clients wr hE hcp (by unfold maxLen at hmx; omega) (fun e he => (hok e he).2)
      have hfree : raceK evs evs.length = [] := hbt.races
      rw [hn.out] at hrc hfree ⊢
      replace hrc := hid_of hrc
      replace hfree := hid_of hfree
      replace hch := hid_of hch
      replace hB := hid_of hB
      have hnum := hid_of num_any
      clear hrow hbt hok hE hmx
      go_wp2_with fail
      refine hrc.out.mono ?_
      rintro e W2 ⟨hB2, ⟨hne, -⟩ | ⟨-, ov, rfl, hov⟩⟩
      · exact absurd hch.out hne
      rw [hn.out, hfree.out] at hov
      obtain ⟨ao, co, rfl, hco, hcm2, -⟩ := ownsRow_form hov
      have hlv := hid_of (live_any W2)
      have hB02 : Hid (Below w.heap.size w W2) := hB.out.trans (hB2.mono hB.out.size)
      clear hov hrc hB2
      simp only [List.length_nil] at hco ⊢
      go_wp2_with fail
      refine (hnum.out 0 W2).mono ?_
      rintro e Z ⟨rfl, hz⟩
      obtain rfl : W2 = Z := hz.symm
      clear hz hnum
      go_wp2_with fail
      refine hlv.out.mono ?_
      rintro e Z ⟨rfl, hZ⟩
      go_wp2_with fail
      exact bodyPost_ret (v := .bool true) (by simp [results, Try.results4, go_sem]) rfl ⟨rfl, hB02.out.trans (hZ.mono hB02.out.size)⟩
end Go.Proofs.Ytdgdfpgekccibaa
