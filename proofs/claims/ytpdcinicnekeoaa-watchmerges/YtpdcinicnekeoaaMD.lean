import Derived.Test.YtpdcinicnekeoaaMB
import Derived.Test.YtpdcinicnekeoaaMC
/-! watch: merged, Merge. -/
namespace Go.Proofs.Ytpdcinicnekeoaa
open Go Go.RowKit Go.Watch
theorem totL_app (a b : List (List Chg)) : totL (a ++ b) = totL a + totL b := by simp [totL]
set_option maxHeartbeats 4000000 in
set_option maxRecDepth 100000 in
theorem merged_step (n : Nat) (ih : ∀ (a : Option Addr) (ls : List (List Chg)) (cap : Nat) (w : World), ls.length < n → RowsAt w a ls → ls.length ≤ cap → cap ≤ 9223372036854775807 → totL ls ≤ 1048576 → Calls Try.prog 29 #[.slice a ls.length cap, .func (.func 30) #[] #[]] w (MPost w (kM ls)))
    (a : Option Addr) (ls : List (List Chg)) (cap : Nat) (w : World) (hn : ls.length = n) (h : RowsAt w a ls) (hc : ls.length ≤ cap) (hm : cap ≤ 9223372036854775807) (hN : totL ls ≤ 1048576) :
    Calls Try.prog 29 #[.slice a ls.length cap, .func (.func 30) #[] #[]] w (MPost w (kM ls)) := by
  by_cases h2 : ls.length < 2
  · have hcc := hid_of (concat_any (cap := cap) h h2 hN)
    have h2i : (ls.length : Int) < 2 := by omega
    obtain ⟨L, hL⟩ : ∃ L, Hid (ls.length = L) := ⟨_, rfl⟩
    rw [hL.out] at hcc h2 h2i ⊢
    clear h hc hN ih hn
    go_enter Try.func29, Try.ntmps29
    go_wp2_with fail
    refine hcc.out.mono ?_
    rintro e W1 hP
    replace hP := hid_of hP
    obtain ⟨xa, xc, rfl, -⟩ := hP.out.row
    go_wp2_with fail
    go_ret
    exact hP.out
  · obtain ⟨k, hk⟩ : ∃ k, Hid (ls.length / 2 = k) := ⟨_, rfl⟩
    have hk1 : k < ls.length := by have := hk.out; omega
    have hk2 : 0 < k := by have := hk.out; omega
    have hcut := hid_of (fun W => cutl_any a ls.length cap k (by omega) hc W)
    have hsplit : ls = ls.take k ++ ls.drop k := (List.take_append_drop k ls).symm
    have hkm : Hid (kM ls = mw (kM (ls.take k)) (kM (ls.drop k))) := by
      show _ = _
      conv => lhs; rw [hsplit]
      exact kM_app _ _
    have htt : totL (ls.take k) + totL (ls.drop k) = totL ls := by rw [← totL_app, ← hsplit]
    have hl1 : (ls.take k).length = k := by rw [List.length_take]; omega
    have hl2 : (ls.drop k).length = ls.length - k := List.length_drop ..
    have hi1 := hid_of (fun W (hB : Below w.heap.size w W) => ih a (ls.take k) k W (by omega) ((h.take k).below hB) (by omega) (by omega) (by omega))
    have hi2 := hid_of (fun W (hB : Below w.heap.size w W) => ih (advA a k 1 ls.length) (ls.drop k) (ls.length - k) W (by omega) ((h.drop k ls.length (fun e => by omega)).below hB) (by omega) (by omega) (by omega))
    have hka := kM_len (ls.take k)
    have hkb := kM_len (ls.drop k)
    rw [hl1] at hi1
    rw [hl2] at hi2
    have hki : Hid ((ls.length : Int) / 2 = (k : Int)) := by have := hk.out; show _ = _; omega
    have h2i : ¬ (ls.length : Int) < 2 := by omega
    obtain ⟨a2, ha2⟩ : ∃ a2, Hid (advA a k 1 ls.length = a2) := ⟨_, rfl⟩
    obtain ⟨L, hL⟩ : ∃ L, Hid (ls.length = L) := ⟨_, rfl⟩
    rw [ha2.out] at hcut hi2
    rw [hL.out] at hcut hi2 hki h2i hc ⊢
    obtain ⟨r, hr⟩ : ∃ r, Hid (L - k = r) := ⟨_, rfl⟩
    rw [hr.out] at hcut hi2
    rw [hkm.out]
    obtain ⟨A1, hA1⟩ : ∃ l, Hid (kM (ls.take k) = l) := ⟨_, rfl⟩
    obtain ⟨B1, hB1⟩ : ∃ l, Hid (kM (ls.drop k) = l) := ⟨_, rfl⟩
    rw [hA1.out] at hi1 hka ⊢
    rw [hB1.out] at hi2 hkb ⊢
    have hAB : A1.length + B1.length ≤ 1048576 := by omega
    replace hAB := hid_of hAB
    have hLi : (0 : Int) ≤ (L : Int) := by omega
    have hLm : (L : Int) ≤ 9223372036854775807 := by omega
    clear ih h hsplit htt hl1 hl2 hka hkb hN hn h2 hk1 hc hkm
    go_enter Try.func29, Try.ntmps29
    go_wp2_with (first | rw [hki.out] | fail)
    refine (hcut.out _).mono ?_
    rintro e W1 ⟨rfl, m1, hW1⟩
    have hb1 : Below w.heap.size w W1 := by rw [hW1]; exact below_drewN (Below.refl _ w) m1
    replace hi1 := hid_of (hi1.out W1 hb1)
    replace hb1 := hid_of hb1
    clear hcut hW1
    go_wp2_with fail
    refine hi1.out.mono ?_
    rintro e W2 ⟨hb2, xa, xc, rfl, hR2⟩
    have hb02 : Below w.heap.size w W2 := hb1.out.trans (hb2.mono hb1.out.size)
    replace hi2 := hid_of (hi2.out W2 hb02)
    replace hb02 := hid_of hb02
    replace hR2 := hid_of hR2
    obtain ⟨n1, hn1⟩ : ∃ n, Hid (A1.length = n) := ⟨_, rfl⟩
    rw [hn1.out] at hR2 ⊢
    clear hi1 hb1 hb2
    go_wp2_with fail
    refine hi2.out.mono ?_
    rintro e W3 ⟨hb3, ya, yc, rfl, hR3⟩
    have hb03 : Hid (Below w.heap.size w W3) := hb02.out.trans (hb3.mono hb02.out.size)
    have hwv := hid_of (woven_any (w := W3) (ca := xc) (cb := yc) ((hR2.out.below hb3).chgs) hR3.chgs (by rw [hn1.out]; exact hR2.out.le) hR3.le hAB.out)
    rw [hn1.out] at hwv
    clear hi2 hb3 hR2 hR3 hb02
    go_wp2_with fail
    refine hwv.out.mono ?_
    rintro e W4 ⟨hb4, za, zc, rfl, hR4⟩
    have hfin : Hid (MPost w (mw A1 B1) (.returned (.slice za (mw A1 B1).length zc)) W4) := ⟨hb03.out.trans (hb4.mono hb03.out.size), za, zc, rfl, hR4.lower hb03.out.size⟩
    clear hwv hb4 hR4 hb03
    go_wp2_with fail
    go_ret
    exact hfin.out
theorem merged_any : (n : Nat) → (a : Option Addr) → (ls : List (List Chg)) → (cap : Nat) → (w : World) → ls.length = n → RowsAt w a ls → ls.length ≤ cap → cap ≤ 9223372036854775807 → totL ls ≤ 1048576 → Calls Try.prog 29 #[.slice a ls.length cap, .func (.func 30) #[] #[]] w (MPost w (kM ls)) := by
  intro n
  induction n using Nat.strongRecOn with
  | _ n ih => exact fun a ls cap w hn h hc hm hN => merged_step n (fun a ls cap w hlt h hc hm hN => ih ls.length hlt a ls cap w rfl h hc hm hN) a ls cap w hn h hc hm hN
set_option maxHeartbeats 1000000 in
theorem merge_any {a : Option Addr} {ls : List (List Chg)} {cap : Nat} {w : World} (h : RowsAt w a ls) (hc : ls.length ≤ cap) (hm : cap ≤ 9223372036854775807) (hN : totL ls ≤ 1048576) :
    Calls Try.prog 17 #[.slice a ls.length cap] w (MPost w (kM ls)) := by
  have hmg := hid_of (merged_any ls.length a ls cap w rfl h hc hm hN)
  obtain ⟨L, hL⟩ : ∃ L, Hid (ls.length = L) := ⟨_, rfl⟩
  rw [hL.out] at hmg ⊢
  clear h hc hm hN
  go_enter Try.func17, Try.ntmps17
  go_wp2_with fail
  refine hmg.out.mono ?_
  rintro e W1 hP
  replace hP := hid_of hP
  obtain ⟨xa, xc, rfl, -⟩ := hP.out.row
  go_wp2_with fail
  go_ret
  exact hP.out
end Go.Proofs.Ytpdcinicnekeoaa
