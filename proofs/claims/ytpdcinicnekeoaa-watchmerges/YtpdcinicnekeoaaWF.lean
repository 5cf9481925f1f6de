import Derived.Test.YtpdcinicnekeoaaWE
import Derived.Test.YtpdcinicnekeoaaPB
/-! watch: upTo. -/
namespace Go.Proofs.Ytpdcinicnekeoaa
open Go Go.RowKit Go.Watch
theorem PtrsAt.drewN {S : Nat → Prop} {w : World} {a : Option Addr} {l : List Chg} (h : PtrsAt S w a l) (m : Nat) : PtrsAt S (w.drewN m) a l := h.keep (fun _ _ _ => rfl)
set_option maxHeartbeats 1000000 in
set_option maxRecDepth 100000 in
theorem up1_any {S : Nat → Prop} {a : Option Addr} {l : List Chg} {cap bx bs : Nat} {s : Int} {w : World} (h : PtrsAt S w a l) (hx : w.cell? ⟨bx, 0, none⟩ = some (.slice a l.length cap)) (hs : w.cell? ⟨bs, 0, none⟩ = some (.int .i64 s)) (i : Nat) (c : Chg) (hi : l[i]? = some c) :
    Calls Try.prog 33 #[.int .i64 (i : Int), .pointer (some ⟨bx, 0, none⟩), .pointer (some ⟨bs, 0, none⟩)] w fun e w' => e = .returned (.bool (decide (s < c.st))) ∧ ∃ m, w' = w.drewN m := by
  obtain ⟨b, o, g, rfl, -, -, h4, h5⟩ := h i c hi
  have y0 := h5.st
  have hl := (List.getElem?_eq_some_iff.1 hi).1
  obtain ⟨n, hn⟩ : ∃ n, Hid (l.length = n) := ⟨_, rfl⟩
  rw [hn.out] at hx hl
  obtain ⟨x, hxx⟩ : ∃ x, Hid (c.st = x) := ⟨_, rfl⟩
  rw [hxx.out] at y0 ⊢
  have hl2 : (i : Int) < (n : Int) := by omega
  have hl3 : (0 : Int) ≤ (i : Int) := by omega
  clear h h5 hi
  go_enter Try.func33, Try.ntmps33
  go_wp2
  go_quiet (fail)
  go_wp2
  go_ret
  exact ⟨rfl, _, rfl⟩
set_option maxHeartbeats 2000000 in
set_option maxRecDepth 100000 in
theorem search_any {l : List Chg} (hr : Rise l) {bx bs : Nat} {s : Int} {w : World} (hl : l.length ≤ 4611686018427387904)
    (hf : ∀ (i : Nat) c m, l[i]? = some c → Calls Try.prog 33 #[.int .i64 (i : Int), .pointer (some ⟨bx, 0, none⟩), .pointer (some ⟨bs, 0, none⟩)] (w.drewN m) fun e w' => e = .returned (.bool (decide (s < c.st))) ∧ ∃ k, w' = (w.drewN m).drewN k) :
    Calls Try.prog 32 #[.int .i64 l.length, .func (.func 33) #[] #[.pointer (some ⟨bx, 0, none⟩), .pointer (some ⟨bs, 0, none⟩)]] w fun e w' => e = .returned (.int .i64 (upT l s)) ∧ ∃ m, w' = w.drewN m := by
  replace hf := hid_of hf
  obtain ⟨n, hn⟩ : ∃ n, Hid (l.length = n) := ⟨_, rfl⟩
  rw [hn.out] at hl ⊢
  go_enter Try.func32, Try.ntmps32
  go_wp2_with fail
  go_loopw [5, 6] (fun iv jv wr => ∃ i j m : Nat, iv = .int .i64 (i : Nat) ∧ jv = .int .i64 (j : Nat) ∧ i ≤ j ∧ j ≤ n ∧ wr = w.drewN m ∧ Hid ((∀ (q : Nat) c, q < i → l[q]? = some c → c.st ≤ s) ∧ (∀ c, l[j]? = some c → s < c.st))) (fun iv jv _ => (intOf jv).toNat - (intOf iv).toNat)
  case atStart => exact ⟨0, n, 0, rfl, rfl, Nat.zero_le _, Nat.le_refl _, rfl, ⟨fun q c h => by omega, fun c hc => by rw [List.getElem?_eq_none (by rw [hn.out]; exact Nat.le_refl _)] at hc; cases hc⟩⟩
  case round =>
    obtain ⟨i, j, m, rfl, rfl, hij, hjn, hwr, hI⟩ := hrel
    subst hwr
    by_cases hlt : i < j
    · obtain ⟨h, hh⟩ : ∃ h, Hid ((i + j) / 2 = h) := ⟨_, rfl⟩
      have hi1 : i ≤ h := by have := hh.out; omega
      have hi2 : h < j := by have := hh.out; omega
      have hhi : Hid (((i : Int) + (j : Int)) / 2 = (h : Int)) := by have := hh.out; show _ = _; omega
      have hhl : h < l.length := by have := hn.out; omega
      obtain ⟨c, hc⟩ : ∃ c, l[h]? = some c := ⟨_, List.getElem?_eq_getElem hhl⟩
      have hcall := hid_of (hf.out h c m hc)
      have b0 : (0 : Int) ≤ (i : Int) := by omega
      have b1 : (0 : Int) ≤ (j : Int) := by omega
      have b2 : (j : Int) ≤ 4611686018427387904 := by omega
      have b3 : (i : Int) ≤ 4611686018427387904 := by omega
      replace hc := hid_of hc
      clear hhl hf
      go_wp2_with fail
      rw [hhi.out]
      refine hcall.out.mono ?_
      rintro e w' ⟨rfl, m', rfl⟩
      clear hcall
      rw [World.drewN_drewN]
      by_cases hs : s < c.st
      · have hd : decide (s < c.st) = true := decide_eq_true hs
        rw [hd]
        replace hs := hid_of hs
        clear hd
        go_wp2_with fail
        go_roundw
        case rel => exact ⟨i, h, _, rfl, rfl, hi1, by omega, rfl, ⟨hI.out.1, fun d hd => by have := hc.out; rw [this] at hd; cases hd; exact hs.out⟩⟩
        case measure =>
          simp only [intOf]
          omega
      · have hd : decide (s < c.st) = false := decide_eq_false hs
        rw [hd]
        replace hs := hid_of hs
        clear hd
        go_wp2_with fail
        go_roundw
        case rel => exact ⟨h + 1, j, _, by go_num, rfl, by omega, hjn, rfl, ⟨fun q d hq hd => by have h1 := hr q h d c hd hc.out (by omega); have h2 := hs.out; omega, hI.out.2⟩⟩
        case measure =>
          simp only [intOf]
          omega
    · obtain rfl : i = j := by omega
      have e := upT_eq l s i (by rw [hn.out]; exact hjn) hI.out.1 hI.out.2
      go_wp2_with fail
      go_ret
      exact ⟨by rw [e]; rfl, _, rfl⟩
set_option maxHeartbeats 1000000 in
set_option maxRecDepth 100000 in
theorem upTo_any {S : Nat → Prop} {a : Option Addr} {l : List Chg} {cap : Nat} {w : World} (s : Int) (h : PtrsAt S w a l) (hr : Rise l) (hl : l.length ≤ 4611686018427387904) :
    Calls Try.prog 23 #[.slice a l.length cap, .int .i64 s] w fun e w' => e = .returned (.int .i64 (upT l s)) ∧ Below w.heap.size w w' := by
  obtain ⟨W1, hW1⟩ : ∃ W1, Hid ((w.alloc (.cells #[.slice a l.length cap] 54)).alloc (.cells #[.int .i64 s] 2) = W1) := ⟨_, rfl⟩
  have hB : Below w.heap.size w W1 := by rw [← hW1.out]; exact ((Below.refl _ w).alloc (Nat.le_refl _) _).alloc (by simp) _
  have z0 : W1.cell? ⟨w.heap.size, 0, none⟩ = some (.slice a l.length cap) := by
    rw [← hW1.out, World.cell?_alloc_lt _ _ _ (by simp)]
    exact cell_of_row _ _ 0 _ _ _ (heap_alloc_new w _)
  have z1 : W1.cell? ⟨w.heap.size + 1, 0, none⟩ = some (.int .i64 s) := by
    rw [← hW1.out]
    have := heap_alloc_new (w.alloc (.cells #[.slice a l.length cap] 54)) (.cells #[.int .i64 s] 2)
    rw [World.size_alloc] at this
    exact cell_of_row _ _ 0 _ _ _ this
  have hs := hid_of (search_any hr (w := W1) (bx := w.heap.size) (bs := w.heap.size + 1) (s := s) hl (fun i c m hi => up1_any ((h.below hB).drewN m) (by simpa using z0) (by simpa using z1) i c hi))
  obtain ⟨u, hu⟩ : ∃ u, Hid (upT l s = u) := ⟨_, rfl⟩
  rw [hu.out] at hs ⊢
  clear h hr z1 hl
  obtain ⟨n, hn⟩ : ∃ n, Hid (l.length = n) := ⟨_, rfl⟩
  rw [hn.out] at hW1 hs z0 ⊢
  replace hB := hid_of hB
  go_enter Try.func23, Try.ntmps23
  go_wp2_with (rw [hW1.out])
  refine hs.out.mono ?_
  rintro e w' ⟨rfl, m, rfl⟩
  go_wp2_with fail
  go_ret
  exact ⟨rfl, below_drewN hB.out m⟩
end Go.Proofs.Ytpdcinicnekeoaa
