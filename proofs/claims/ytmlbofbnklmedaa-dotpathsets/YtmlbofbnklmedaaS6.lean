import Derived.Test.YtmlbofbnklmedaaS5
/-! One turn up, of every value. -/
namespace Go.Proofs.Ytmlbofbnklmedaa
open Go Go.RowKit

theorem anew_all (k x : Int) (tx : ByteArray) (ns : List ByteArray) (its : List Tr) (cs : List Value) (hk : k = 5 ∨ k = 6) (hb : (its.length + 1) * 80 ≤ 281474976710656) (w0 : World) (hV : VRep w0 (.node k x tx ns its) cs) :
    ∃ xs, ItemsRep w0 (keepIts k ns its) xs ∧ ∀ w, Below w0.heap.size w0 w → Calls Try.prog 51 #[.agg cs.toArray] w (Anew w k (keepIts k ns its).length (strs (keepNs k ns its)) xs) := by
  obtain ⟨an, cn, ai, ci, xs, rfl, hcn, hci, hN, hI, hR⟩ := hV.parts
  rcases hk with rfl | rfl
  · exact ⟨xs, hR, fun w h0 => anew5 x tx an ns.length cn ai its.length ci _ xs hR.length hb hR.ones w (hI.keep h0)⟩
  · have hl : (its.take (min ns.length its.length)).length = min ns.length its.length := by rw [List.length_take]; omega
    refine ⟨xs.take (min ns.length its.length * 5), hR.take _, fun w h0 => ?_⟩
    have := anew6 x tx an ns.length cn ai its.length ci (min ns.length its.length) (strs (ns.take (min ns.length its.length))) (xs.take (min ns.length its.length * 5)) rfl hcn.1 hci.1 (by rw [strs_length, List.length_take]; omega) (by rw [List.length_take, hR.length]; omega) (by omega) (strs1 _) (fun v hv => hR.ones v (List.mem_of_mem_take hv)) w (by rw [← strs_take]; exact (hN.keep h0).take _) ((hI.keep h0).take _)
    unfold keepIts keepNs
    rw [if_pos rfl, if_pos rfl, hl]
    exact this
theorem keep_le (k : Int) (ns : List ByteArray) (its : List Tr) : (keepIts k ns its).length ≤ its.length := by
  unfold keepIts
  split
  · rw [List.length_take]; omega
  · exact Nat.le_refl _
theorem keep6 (ns : List ByteArray) (its : List Tr) : (keepNs 6 ns its).length = (keepIts 6 ns its).length := by
  unfold keepIts keepNs
  rw [if_pos rfl, if_pos rfl, List.length_take, List.length_take]; omega
theorem keep5 (ns : List ByteArray) (its : List Tr) : keepNs 5 ns its = [] := by
  unfold keepNs
  rw [if_neg (by decide)]
theorem with_any (k x : Int) (tx : ByteArray) (ns : List ByteArray) (its : List Tr) (an : Option Addr) (ln cn : Nat) (ai : Option Addr) (li ci : Nat) (sg : ByteArray) (m : Nat) (hk : k = 5 ∨ k = 6) (hm : m ≤ (keepIts k ns its).length) (hb : (its.length + 1) * 80 ≤ 140737488355328) (k1 x1 : Int) (s1 : ByteArray) (an1 : Option Addr) (ln1 cn1 : Nat) (ai1 : Option Addr) (li1 ci1 : Nat) (X : Tr) (S : Nat → Prop) (w0 w : World) (h0 : Below w0.heap.size w0 w) (hS : ∀ k, k < w0.heap.size → S k)
    (hV : VRep w0 (.node k x tx ns its) (five k x tx (.slice an ln cn) (.slice ai li ci))) (hX : Seen w S X (five k1 x1 s1 (.slice an1 ln1 cn1) (.slice ai1 li1 ci1))) :
    Calls Try.prog 48 #[.agg #[.int .i64 k, .int .i64 x, .string tx, .slice an ln cn, .slice ai li ci, .string sg, .int .i64 m], .agg #[.int .i64 k1, .int .i64 x1, .string s1, .slice an1 ln1 cn1, .slice ai1 li1 ci1]] w (WithPost w S (withT k ns its sg m X)) := by
  obtain ⟨xs, hR, hA⟩ := anew_all k x tx ns its _ hk (by omega) w0 hV
  have hA' : ∀ W, Below w.heap.size w W → Calls Try.prog 51 #[.agg #[.int .i64 k, .int .i64 x, .string tx, .slice an ln cn, .slice ai li ci]] W (Anew W k (keepIts k ns its).length (strs (keepNs k ns its)) xs) := fun W hW => hA W (h0.trans (hW.mono h0.size))
  have hle := keep_le k ns its
  unfold withT
  split
  · exact with_set k x tx an ln cn ai li ci sg m _ (by assumption) k1 x1 s1 an1 ln1 cn1 ai1 li1 ci1 _ _ rfl xs X S w0 w h0 hS hR hX hA' (fun e => by subst e; exact keep5 ns its) (fun e => by subst e; exact keep6 ns its)
  · obtain rfl : m = (keepIts k ns its).length := by omega
    rcases hk with rfl | rfl
    · rw [if_neg (by decide)]
      exact with_app5 x tx an ln cn ai li ci sg _ (by omega) k1 x1 s1 an1 ln1 cn1 ai1 li1 ci1 (keepNs 5 ns its) _ rfl xs X S w0 w h0 hS hR hX hA'
    · rw [if_pos rfl]
      exact with_app6 x tx an ln cn ai li ci sg _ (by omega) k1 x1 s1 an1 ln1 cn1 ai1 li1 ci1 _ _ rfl xs X S w0 w h0 hS hR hX hA' (keep6 ns its)
end Go.Proofs.Ytmlbofbnklmedaa
