import Derived.Test.YtdgdfpgekccibabCM
/-! clocks: uses of a cell; the first that is not known. -/
namespace Go.Proofs.Ytdgdfpgekccibab
open Go Go.RowKit
/-- Uses: the number of the event, and which one of its client's. -/
abbrev Uses := List (Nat × Nat)
def flatU (l : Uses) : List Value := l.flatMap fun u => [.int .i64 (u.1 : Nat), .int .i32 (u.2 : Nat)]
theorem flatU_len (l : Uses) : (flatU l).length = l.length * 2 := by
  induction l with
  | nil => rfl
  | cons a l ih => simp [flatU] at ih ⊢; omega
theorem flatU_at : (l : Uses) → (i : Nat) → (u : Nat × Nat) → l[i]? = some u → (flatU l)[i * 2]? = some (.int .i64 (u.1 : Nat)) ∧ (flatU l)[i * 2 + 1]? = some (.int .i32 (u.2 : Nat))
  | [], _, _, h => by simp at h
  | a :: l, 0, u, h => by simp at h; subst h; simp [flatU]
  | a :: l, i + 1, u, h => by
    have := flatU_at l i u (by simpa using h)
    simp only [flatU, List.flatMap_cons] at this ⊢
    rw [show (i + 1) * 2 = i * 2 + 2 by omega, show i * 2 + 2 + 1 = (i * 2 + 1) + 2 by omega]
    rw [List.getElem?_append_right (by simp), List.getElem?_append_right (by simp)]
    simpa using this
theorem flatU_snoc (l : Uses) (u : Nat × Nat) : flatU (l ++ [u]) = flatU l ++ [.int .i64 (u.1 : Nat), .int .i32 (u.2 : Nat)] := by simp [flatU]
/-- Uses in memory. -/
def UseRow (w : World) (v : Value) (l : Uses) : Prop := w.ownsRow 0 78 2 v l.length (flatU l)
theorem ownsRow_cell {w : World} {lo : Nat} {e : TypeId} {size n g cap : Nat} {xs : List Value} (h : w.ownsRow lo e size (.slice (some ⟨g, 0, none⟩) n cap) n xs) {k : Nat} {u : Value} (hk : xs[k]? = some u) : w.cell? ⟨g, k, none⟩ = some u := by
  obtain ⟨h1, h2⟩ := h
  rcases h2 with ⟨hv, _⟩ | ⟨g', cap', cur, hv, hg, hh, hc, hm, hs, hr⟩
  · cases hv
  · cases hv
    have hlt : k < n * size := by have := (List.getElem?_eq_some_iff.1 hk).1; omega
    rw [← hr, List.getElem?_take_of_lt hlt, Array.getElem?_toList] at hk
    simp [World.cell?, hh, hk]
theorem ownsRow_form {w : World} {lo : Nat} {e : TypeId} {size n : Nat} {v : Value} {xs : List Value} (h : w.ownsRow lo e size v n xs) : ∃ (a : Option Addr) (cap : Nat), v = .slice a n cap ∧ n ≤ cap ∧ cap ≤ maxLen ∧ (0 < n → ∃ g, a = some ⟨g, 0, none⟩) := by
  obtain ⟨h1, h2⟩ := h
  rcases h2 with ⟨hv, h0⟩ | ⟨g', cap', cur, hv, hg, hh, hc, hm, hs, hr⟩
  · subst h0
    exact ⟨none, 0, hv, by omega, by unfold maxLen; omega, fun h => by omega⟩
  · exact ⟨_, cap', hv, hc, hm, fun _ => ⟨g', rfl⟩⟩
theorem ownsRow_keep {w w' : World} {lo : Nat} {e : TypeId} {size n : Nat} {v : Value} {xs : List Value} (h : w.ownsRow lo e size v n xs) (hk : ∀ g, v.ownBlock = some g → w'.heap[g]? = w.heap[g]?) : w'.ownsRow lo e size v n xs := by
  obtain ⟨h1, h2⟩ := h
  refine ⟨h1, ?_⟩
  rcases h2 with h2 | ⟨g', cap', cur, hv, hg, hh, r⟩
  · exact .inl h2
  · exact .inr ⟨g', cap', cur, hv, hg, (hk g' (by rw [hv]; rfl)).trans hh, r⟩
/-- Where the first use stands that is not among the first known ones. -/
def posU : Uses → Nat → Nat
  | [], _ => 0
  | u :: l, known => if u.2 ≤ known then posU l known + 1 else 0
/-- Their counts rise. -/
def Rise (l : Uses) : Prop := ∀ (i j : Nat) (u v : Nat × Nat), l[i]? = some u → l[j]? = some v → i < j → u.2 < v.2
theorem posU_le : (l : Uses) → (known : Nat) → posU l known ≤ l.length
  | [], _ => Nat.le_refl _
  | u :: l, known => by
    have := posU_le l known
    unfold posU
    split
    · simp; omega
    · simp
theorem posU_below : {l : Uses} → {known i : Nat} → {u : Nat × Nat} → l[i]? = some u → i < posU l known → u.2 ≤ known
  | [], _, _, _, h, _ => by simp at h
  | x :: l, known, i, u, hi, h => by
    unfold posU at h
    split at h
    · next hx =>
      cases i with
      | zero => simp at hi; subst hi; exact hx
      | succ i => exact posU_below (l := l) (by simpa using hi) (by omega)
    · omega
theorem posU_at : {l : Uses} → {known : Nat} → {u : Nat × Nat} → l[posU l known]? = some u → known < u.2
  | [], _, _, h => by simp [posU] at h
  | x :: l, known, u, h => by
    unfold posU at h
    split at h
    · exact posU_at (l := l) (by simpa using h)
    · next hx => simp at h; subst h; omega
theorem posU_above {l : Uses} (hr : Rise l) {known i : Nat} {u : Nat × Nat} (hi : l[i]? = some u) (h : posU l known ≤ i) : known < u.2 := by
  have hlt := (List.getElem?_eq_some_iff.1 hi).1
  obtain ⟨v, hv⟩ : ∃ v, l[posU l known]? = some v := ⟨_, List.getElem?_eq_getElem (by omega)⟩
  have h1 := posU_at hv
  by_cases e : posU l known = i
  · rw [e, hi] at hv; cases hv; exact h1
  · have := hr _ _ _ _ hv hi (by omega); omega
set_option maxHeartbeats 1000000 in
set_option maxRecDepth 100000 in
theorem known_any (bu bk : Nat) (v : Value) (l : Uses) (known i : Nat) (u : Nat × Nat) (w : World) (hR : UseRow w v l) (hbu : w.cell? ⟨bu, 0, none⟩ = some v) (hbk : w.cell? ⟨bk, 0, none⟩ = some (.int .i32 (known : Nat))) (hi : l[i]? = some u) :
    Calls Try.prog 46 #[.int .i64 (i : Int), .pointer (some ⟨bu, 0, none⟩), .pointer (some ⟨bk, 0, none⟩)] w fun e w' => e = .returned (.bool (decide (known < u.2))) ∧ Below w.heap.size w w' := by
  have hlt := (List.getElem?_eq_some_iff.1 hi).1
  obtain ⟨a, cap, rfl, hc, hm, hg⟩ := ownsRow_form hR
  obtain ⟨g, rfl⟩ := hg (by omega)
  have c1 := ownsRow_cell hR (flatU_at l i u hi).2
  have e1 : decide ((known : Int) < (u.2 : Int)) = decide (known < u.2) := by rw [decide_eq_decide]; omega
  unfold maxLen at hm
  go_enter Try.func46, Try.ntmps46
  go_wp2_with fail
  go_quiet (fail)
  go_wp2_with fail
  go_ret
  exact ⟨by simp, below_drewN (Below.refl _ w) _⟩
/-- What the search stands on. -/
structure SeU (w : World) (bu bk : Nat) (v : Value) (l : Uses) (known : Nat) : Prop where
  row : UseRow w v l
  bu : w.cell? ⟨bu, 0, none⟩ = some v
  bk : w.cell? ⟨bk, 0, none⟩ = some (.int .i32 (known : Nat))
theorem SeU.keep {w w' : World} {bu bk : Nat} {v : Value} {l : Uses} {known : Nat} (h : SeU w bu bk v l known) (hb : Below w.heap.size w w') : SeU w' bu bk v l known := by
  refine ⟨ownsRow_keep h.row (fun g hg => ?_), stay hb h.bu, stay hb h.bk⟩
  obtain ⟨h1, h2⟩ := h.row
  rcases h2 with ⟨hv, _⟩ | ⟨g', cap', cur, hv, _, hh, r⟩
  · rw [hv] at hg; cases hg
  · rw [hv] at hg
    cases hg
    exact hb.block _ (Array.getElem?_eq_some_iff.1 hh).1
set_option maxHeartbeats 2000000 in
set_option maxRecDepth 100000 in
theorem search_any (bu bk : Nat) (v : Value) (l : Uses) (known : Nat) (w : World) (hS : SeU w bu bk v l known) (hr : Rise l) (hl : l.length ≤ 1048576) :
    Calls Try.prog 45 #[.int .i64 (l.length : Int), .func (.func 46) #[] #[.pointer (some ⟨bu, 0, none⟩), .pointer (some ⟨bk, 0, none⟩)]] w fun e w' => e = .returned (.int .i64 (posU l known : Nat)) ∧ Below w.heap.size w w' := by
  have hp := posU_le l known
  go_enter Try.func45, Try.ntmps45
  go_wp2_with fail
  go_loopw [5, 6] (fun i j wr => ∃ p q : Nat, i = .int .i64 p ∧ j = .int .i64 q ∧ p ≤ posU l known ∧ posU l known ≤ q ∧ q ≤ l.length ∧ Below w.heap.size w wr) (fun i j _ => (intOf j).toNat - (intOf i).toNat)
  case atStart => exact ⟨0, l.length, rfl, rfl, by omega, hp, Nat.le_refl _, Below.refl _ _⟩
  case round =>
    obtain ⟨p, q, rfl, rfl, h1, h2, h3, hB⟩ := hrel
    by_cases hlt : p < q
    · obtain ⟨m, hm⟩ : ∃ m, Hid ((p + q) / 2 = m) := ⟨_, rfl⟩
      have hmq : m < q := by have := hm.out; omega
      have hpm : p ≤ m := by have := hm.out; omega
      obtain ⟨u, hu⟩ : ∃ u, Hid (l[m]? = some u) := ⟨_, List.getElem?_eq_getElem (by omega)⟩
      have hkn := hid_of (known_any bu bk v l known m u wr (hS.keep hB).row (hS.keep hB).bu (hS.keep hB).bk hu.out)
      go_wp2_with fail
      rw [show ((p : Int) + (q : Int)) / 2 = (m : Int) from by have := hm.out; omega]
      refine hkn.out.mono ?_
      rintro e W2 ⟨rfl, hb2⟩
      replace hb2 := hid_of (hB.trans (hb2.mono hB.size))
      clear hkn hB hS
      by_cases hk : known < u.2
      · have hd : decide (known < u.2) = true := by simp [hk]
        have hle : posU l known ≤ m := by
          rcases Nat.lt_or_ge m (posU l known) with h | h
          · have := posU_below hu.out h; omega
          · exact h
        rw [hd]
        clear hd
        go_wp2_with fail
        go_roundw
        case rel => exact ⟨p, m, rfl, rfl, h1, hle, by omega, hb2.out⟩
        case measure => simp [intOf]; omega
      · have hd : decide (known < u.2) = false := by simp; omega
        have hle : m < posU l known := by
          rcases Nat.lt_or_ge m (posU l known) with h | h
          · exact h
          · have := posU_above hr hu.out h; omega
        rw [hd]
        clear hd
        go_wp2_with fail
        go_roundw
        case rel => exact ⟨m + 1, q, by go_num, rfl, by omega, h2, h3, hb2.out⟩
        case measure => simp [intOf]; omega
    · go_wp2_with fail
      go_ret
      exact ⟨ret_int (by omega), hB⟩
theorem use_u : Try.prog.underlying 93 = some (.slice 78) := by kernel_rfl
/-- The event of the first use that is not known. -/
def firstU (l : Uses) (known : Nat) : Option Nat := (l[posU l known]?).map (·.1)
def unkV : Option Nat → Value
  | some e => .tuple #[.int .i64 (e : Nat), .bool true]
  | none => .tuple #[.int .i64 0, .bool false]
set_option maxHeartbeats 2000000 in
set_option maxRecDepth 100000 in
theorem unknown_any (v : Value) (l : Uses) (known : Nat) (w : World) (hR : UseRow w v l) (hr : Rise l) (hl : l.length ≤ 1048576) :
    Calls Try.prog 42 #[v, .int .i32 (known : Nat)] w fun e w' => e = .returned (unkV (firstU l known)) ∧ Below w.heap.size w w' := by
  have hmf : ∀ (fn : Fn) (first cap : Array Value) (w : World), (Instr.makeFunc fn first cap).run Try.prog w = .ok (.func fn first cap) w := fun _ _ _ _ => rfl
  obtain ⟨a, cap, rfl, hc, hm, hg⟩ := ownsRow_form hR
  obtain ⟨W2, hW2⟩ : ∃ W2, Hid ((w.alloc (.cells #[.slice a l.length cap] 93)).alloc (.cells #[.int .i32 (known : Nat)] 21) = W2) := ⟨_, rfl⟩
  have hB : Below w.heap.size w W2 := by rw [← hW2.out]; exact ((Below.refl _ w).alloc (Nat.le_refl _) _).alloc (by simp) _
  have z0 : W2.heap[w.heap.size]? = some (.cells #[.slice a l.length cap] 93 (0, 0)) := by rw [← hW2.out]; exact heap_alloc2_old w _ _
  have z1 : W2.heap[w.heap.size + 1]? = some (.cells #[.int .i32 (known : Nat)] 21 (0, 0)) := by rw [← hW2.out]; exact heap_alloc2_new w _ _
  have y0 : W2.cell? ⟨w.heap.size, 0, none⟩ = some (.slice a l.length cap) := by simp [World.cell?, z0]
  have y1 : W2.cell? ⟨w.heap.size + 1, 0, none⟩ = some (.int .i32 (known : Nat)) := by simp [World.cell?, z1]
  have hS : SeU W2 w.heap.size (w.heap.size + 1) (.slice a l.length cap) l known := by
    refine ⟨ownsRow_keep hR (fun g hg' => ?_), y0, y1⟩
    obtain ⟨h1, h2⟩ := hR
    rcases h2 with ⟨hv, _⟩ | ⟨g', cap', cur, hv, _, hh, r⟩
    · rw [hv] at hg'; cases hg'
    · rw [hv] at hg'
      cases hg'
      exact hB.block _ (Array.getElem?_eq_some_iff.1 hh).1
  have hse := hid_of (search_any w.heap.size (w.heap.size + 1) (.slice a l.length cap) l known W2 hS hr hl)
  have hp := posU_le l known
  obtain ⟨P, hP⟩ : ∃ P, Hid (posU l known = P) := ⟨_, rfl⟩
  rw [hP.out] at hse hp
  unfold firstU
  rw [hP.out]
  obtain ⟨R, hRs⟩ : ∃ R, Hid (unkV ((l[P]?).map (·.1)) = R) := ⟨_, rfl⟩
  rw [hRs.out]
  clear z0 z1 y1
  go_enter Try.func42, Try.ntmps42
  go_wp2_with (rw [hW2.out])
  refine hse.out.mono ?_
  rintro e W3 ⟨rfl, hb3⟩
  have y3 := stay hb3 y0
  have hS3 := hS.keep hb3
  replace hB := hB.trans (hb3.mono hB.size)
  unfold maxLen at hm
  clear hse hb3 y0 hS hW2 hmf
  by_cases hlt : P < l.length
  · obtain ⟨u, hu⟩ : ∃ u, Hid (l[P]? = some u) := ⟨_, List.getElem?_eq_getElem hlt⟩
    obtain ⟨g, rfl⟩ := hg (by omega)
    have c0 := ownsRow_cell hS3.row (flatU_at l P u hu.out).1
    have hne : ((P : Int) == (l.length : Int)) = false := by simp; omega
    have hres : Hid (unkV ((l[P]?).map (·.1)) = .tuple #[.int .i64 (u.1 : Nat), .bool true]) := by unfold Hid; rw [hu.out]; rfl
    clear hS3
    go_wp2_with fail
    go_ret2
    exact ⟨by rw [← hRs.out, hres.out]; rfl, hB⟩
  · have heq : ((P : Int) == (l.length : Int)) = true := by simp; omega
    have hres : Hid (unkV ((l[P]?).map (·.1)) = .tuple #[.int .i64 0, .bool false]) := by unfold Hid; rw [List.getElem?_eq_none (by omega)]; rfl
    clear hS3
    go_wp2_with fail
    go_ret2
    exact ⟨by rw [← hRs.out, hres.out]; rfl, hB⟩
end Go.Proofs.Ytdgdfpgekccibab
