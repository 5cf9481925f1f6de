import Derived.Test.YtgigikcopedoeaaGreatLN
/-! Bounds: of what large lets in, of what ParseSort answers. -/
namespace Go.Proofs.YtgigikcopedoeaaGreat.Tree
open Go Go.RowKit

theorem parseF_bound (T : ByteArray) : (f n : Nat) → (l : List ByteArray) → l.length ≤ 16 → (∀ s ∈ l, s.size ≤ T.size) → (parseF T f n l).1.length ≤ 16 ∧ ∀ s ∈ (parseF T f n l).1, s.size ≤ T.size
  | 0, n, l, _, _ => by simp [parseF]
  | f + 1, n, l, h1, h2 => by
    rw [parseF]
    split
    · simp
    · rename_i h
      have h16 : ¬ l.length = 16 := fun e => h (.inl e)
      have hnew : ∀ s ∈ l ++ [T.extract n (next T n)], s.size ≤ T.size := fun s hs => by
        rcases List.mem_append.1 hs with hs | hs
        · exact h2 s hs
        · rw [List.mem_singleton.1 hs, ByteArray.size_extract]; omega
      split
      · exact parseF_bound T f _ _ (by simp; omega) hnew
      · exact ⟨by simp; omega, hnew⟩
def OkT (ts : List Turn) : Prop := ∀ p ∈ ts, p.1.length ≤ 1000 ∧ ∀ s ∈ p.1, s.size ≤ 9223372036854775806
theorem addS_ok {ts : List Turn} {T : ByteArray} (k x : Int) (hT : T.size ≤ 140737488355328) (h : OkT ts) : OkT (addS ts T k x).2 := by
  have hp := parseF_bound T (T.size + 1 - 0) 0 [] (by simp) (by simp)
  unfold addS
  split
  · exact h
  · split
    · exact h
    · split
      · exact h
      · intro p hp'
        rcases List.mem_append.1 hp' with h' | h'
        · exact h p h'
        · rw [List.mem_singleton.1 h']
          exact ⟨Nat.le_trans hp.1 (by decide), fun s hs => by have := hp.2 s hs; omega⟩
theorem foldS_ok : (z : List (ByteArray × Tr)) → (ts : List Turn) → (∀ p ∈ z, p.1.size ≤ 140737488355328) → OkT ts → OkT (foldS z ts).2 ∧ (foldS z ts).2.length ≤ ts.length + z.length
  | [], ts, _, h => ⟨h, by simp [foldS]⟩
  | (T, u) :: r, ts, hz, h => by
    rw [foldS]
    split
    · have h1 := foldS_ok r (addS ts T u.kind u.int).2 (fun p hp => hz p (.tail _ hp)) (addS_ok u.kind u.int (hz (T, u) (.head _)) h)
      have h2 := addS_len ts T u.kind u.int
      exact ⟨h1.1, by have h3 := h1.2; rw [List.length_cons]; omega⟩
    · exact ⟨fun p hp => by simp at hp, by simp⟩
theorem parseS_ok {t : Tr} (h : SmallT t) : OkT (parseS t).2 ∧ (parseS t).2.length ≤ 8 := by
  cases t with
  | node k x s ns its =>
    unfold SmallT at h
    unfold parseS
    split
    · exact ⟨fun p hp => by simp at hp, by simp⟩
    · split
      · exact ⟨fun p hp => by simp at hp, by simp⟩
      · rename_i h8
        have h1 := foldS_ok (Tr.names (.node k x s ns its) |>.zip (Tr.items (.node k x s ns its))) [] (fun p hp => by have := h.2.2.1 p.1 (List.of_mem_zip hp).1; omega) (fun p hp => by simp at hp)
        exact ⟨h1.1, by have := h1.2; rw [List.length_zip] at this; simp at this; omega⟩
set_option maxHeartbeats 4000000 in
set_option maxRecDepth 100000 in
theorem large_exact (a : Option Addr) (c n : Nat) (its : List Tr) (w : World) (hn : its.length = n) (hnn : n ≤ 1000) (hV : ListAt w a c its) (hS : SmallL its) :
    Calls Tryz.prog 7 #[.slice a n c] w fun e w' => SomeB (fun z => z = false → partsL its ≤ 5000) e ∧ Below w.heap.size w w' := by
  have n0 : (0 : Int) ≤ (n : Int) := by omega
  have n1 : (n : Int) ≤ 1000 := by omega
  replace hn := hid_e hn
  replace hV := hid_e hV
  replace hS := hid_e hS
  go_enter Tryz.func7, Tryz.ntmps7
  go_wp2_with fail
  go_loopw [3, 4] (fun nv iv wr => ∃ (q : Nat) (z : Int), nv = .int .i64 z ∧ iv = .int .i64 q ∧ q ≤ n ∧ Hid (0 ≤ z ∧ z ≤ q * 8796093026953 ∧ (z ≤ 5000 → z = (partsL (its.take q) : Nat))) ∧ Hid (Below w.heap.size w wr)) (fun _ iv _ => n - (intOf iv).toNat)
  case atStart => exact ⟨0, 0, rfl, rfl, Nat.zero_le _, ⟨by omega, by omega, fun _ => by simp [partsL]⟩, Below.refl _ _⟩
  case round =>
    obtain ⟨q, z, rfl, rfl, hq, hz, hb⟩ := hrel
    by_cases hlt : q < n
    · have q1 : (q : Int) < (n : Int) := by omega
      have q0 : (0 : Int) ≤ (q : Int) := by omega
      obtain ⟨u, hu⟩ : ∃ u, Hid (its[q]? = some u) := ⟨its[q]'(by rw [hn.out]; omega), List.getElem?_eq_getElem (by rw [hn.out]; omega)⟩
      obtain ⟨b, o, k1, x1, s1, an1, ln1, cn1, ai1, li1, ci1, ea, hlb, hc1, hv1⟩ := (hV.out.keep hb.out).item hu.out
      subst ea
      have call := hid_e (parts_exact u _ 5000 wr hv1 (SmallL.at hS.out hu.out) (by decide) (by decide))
      obtain ⟨x10, x11, x12, x13, x14⟩ := cells5 hc1
      clear hc1 hv1 hlb
      go_wp2_with fail
      refine call.out.mono ?_
      rintro e w2 ⟨⟨m, rfl, hm⟩, hb2⟩
      have hb' := hid_e (hb.out.trans (hb2.mono hb.out.size))
      have hz' : Hid (0 ≤ z + m ∧ z + m ≤ ((q + 1 : Nat) : Int) * 8796093026953 ∧ (z + m ≤ 5000 → z + m = (partsL (its.take (q + 1)) : Nat))) := by
        obtain ⟨h1, h2, h3⟩ := hz.out
        obtain ⟨k1, k2, k3, -⟩ := hm
        have hp := partsL_step hu.out
        refine ⟨by omega, by omega, fun h => ?_⟩
        have e1 := h3 (by omega)
        have e2 := k3 (by omega)
        omega
      have z0 : -9223372036854775808 ≤ z + m := by have := hz'.out.1; omega
      have z1 : z + m ≤ 9223372036854775807 := by have := hz'.out.2.1; omega
      clear call x10 x11 x12 x13 x14 hb2 hb hm hz
      go_wp2_with fail
      exact ⟨⟨q + 1, z + m, by go_num, by go_num, by omega, hz', hb'⟩, by simp [intOf]; omega⟩
    · obtain rfl : q = n := by omega
      have q1 : ¬ (q : Int) < (q : Int) := by omega
      rw [List.take_of_length_le (by rw [hn.out]; omega)] at hz
      go_wp2_with fail
      go_ret
      refine ⟨⟨_, rfl, fun h => ?_⟩, hb.out⟩
      obtain ⟨h1, h2, h3⟩ := hz.out
      have h : ¬ (5000 : Int) < z := by simpa using h
      have := h3 (by omega)
      omega
end Go.Proofs.YtgigikcopedoeaaGreat.Tree
