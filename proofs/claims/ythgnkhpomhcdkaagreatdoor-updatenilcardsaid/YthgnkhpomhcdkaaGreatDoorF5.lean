import Derived.Test.YthgnkhpomhcdkaaGreatDoorE1
import Derived.Test.YthgnkhpomhcdkaaGreatDoorZB3
import Derived.Deep.AppendLies
import Derived.Laws.Bits64
import Derived.Test.YthgnkhpomhcdkaaGreatDoorMA1
/-! order's laidText and laidNumber: bytes behind a key. -/
namespace Go.Proofs.YthgnkhpomhcdkaaGreatDoor
open Go Go.RowKit

theorem Q5 : (Tryz.prog.info? 5).map (fun i => (i.zero, i.size, i.bytes)) = some (some (.int .u8 0), 1, 1) := by kernel_rfl
/-- A key under way: its bytes, and that of what was there only its own row has changed. -/
structure KeyAt (lo : Nat) (w0 : World) (b0 : Option Nat) (wr : World) (kv : Value) (l : List UInt8) : Prop where
  own : wr.ownsRow lo 5 1 kv l.length (Lib.byteCells l)
  grown : w0.grownBy wr b0
  pos : kv.ownBlock = b0 ∨ ∃ g, kv.ownBlock = some g ∧ w0.heap.size ≤ g
theorem KeyAt.start {lo : Nat} {w : World} {v : Value} {l : List UInt8} (h : w.ownsRow lo 5 1 v l.length (Lib.byteCells l)) : KeyAt lo w v.ownBlock w v l := ⟨h, World.grownBy.refl _ _, .inl rfl⟩
theorem KeyAt.alloc {lo : Nat} {w0 wr : World} {b0 : Option Nat} {kv : Value} {l : List UInt8} (h : KeyAt lo w0 b0 wr kv l) (o : Obj) : KeyAt lo w0 b0 (wr.alloc o) kv l :=
  ⟨h.own.alloc o, ⟨h.grown.os, h.grown.tape, h.grown.output, Nat.le_trans h.grown.size (by simp), fun k hk hne => (Below.heap_alloc wr o k (Nat.lt_of_lt_of_le hk h.grown.size)).trans (h.grown.block k hk hne)⟩, h.pos⟩
theorem KeyAt.drew {lo : Nat} {w0 wr : World} {b0 : Option Nat} {kv : Value} {l : List UInt8} (h : KeyAt lo w0 b0 wr kv l) : KeyAt lo w0 b0 wr.drew kv l := ⟨h.own, ⟨h.grown.os, h.grown.tape, h.grown.output, h.grown.size, h.grown.block⟩, h.pos⟩
theorem KeyAt.step {lo : Nat} {w0 wr w' : World} {b0 : Option Nat} {kv kv' : Value} {l l' : List UInt8} (h : KeyAt lo w0 b0 wr kv l) (ho : w'.ownsRow lo 5 1 kv' l'.length (Lib.byteCells l')) (hg : wr.grownBy w' kv.ownBlock) (hp : kv'.ownBlock = kv.ownBlock ∨ ∃ g, kv'.ownBlock = some g ∧ wr.heap.size ≤ g) : KeyAt lo w0 b0 w' kv' l' := by
  refine ⟨ho, ⟨hg.os.trans h.grown.os, hg.tape.trans h.grown.tape, hg.output.trans h.grown.output, Nat.le_trans h.grown.size hg.size, fun k hk hne => ?_⟩, ?_⟩
  · refine (hg.block k (Nat.lt_of_lt_of_le hk h.grown.size) (fun e => ?_)).trans (h.grown.block k hk hne)
    rcases h.pos with e1 | ⟨g, e1, e2⟩
    · exact hne (e.trans e1)
    · rw [e1] at e; injection e with e; omega
  · rcases hp with e | ⟨g, e1, e2⟩
    · rw [e]; exact h.pos
    · exact .inr ⟨g, e1, Nat.le_trans h.grown.size e2⟩
theorem KeyAt.app {lo : Nat} {w0 wr w' : World} {b0 : Option Nat} {kv : Value} {l add : List UInt8} {g cap m : Nat} {news : List Value} (h : KeyAt lo w0 b0 wr kv l) (hm : add.length = m) (hn : news = Lib.byteCells add)
    (ho : w'.ownsRow lo 5 1 (.slice (some ⟨g, 0, none⟩) (l.length + m) cap) (l.length + m) (Lib.byteCells l ++ news)) (hg : wr.grownBy w' kv.ownBlock) (hat : kv.ownBlock = some g ∨ g = wr.heap.size) : KeyAt lo w0 b0 w' (.slice (some ⟨g, 0, none⟩) (l.length + m) cap) (l ++ add) := by
  subst hm hn
  rw [← Lib.byteCells_append, ← List.length_append] at ho
  rw [← List.length_append]
  refine h.step ho hg ?_
  rcases hat with e | e
  · exact .inl (by rw [e]; rfl)
  · exact .inr ⟨g, rfl, by omega⟩
/-- What a call that lays bytes behind a key answers. -/
def KeyPost (lo : Nat) (w : World) (v : Value) (l : List UInt8) (e : Ending) (w' : World) : Prop := ∃ kv, e = .returned kv ∧ KeyAt lo w v.ownBlock w' kv l
theorem take_next {s : ByteArray} {i : Nat} (h : i < s.size) : s.data.toList.take (i + 1) = s.data.toList.take i ++ [s.data.getD i 0] := by
  have h1 : s.data.toList[i]? = some (s.data.getD i 0) := by
    rw [Array.getElem?_toList, Array.getD_eq_getD_getElem?]
    have : i < s.data.size := h
    rw [Array.getElem?_eq_getElem this]
    rfl
  rw [List.take_add_one, h1]
  rfl
theorem byte_at {s : ByteArray} {i : Nat} (h : i < s.size) : s[i] = s.data.getD i 0 := by
  have : i < s.data.size := h
  rw [Array.getD_eq_getD_getElem?, Array.getElem?_eq_getElem this]
  rfl
theorem flat_len (l : List UInt8) : (l.flatMap keyB).length ≤ 2 * l.length := by
  induction l with
  | nil => simp
  | cons b t ih =>
    rw [List.flatMap_cons, List.length_append, List.length_cons]
    have : (keyB b).length ≤ 2 := by unfold keyB; split <;> simp
    omega
set_option maxHeartbeats 8000000 in
set_option maxRecDepth 100000 in
theorem text_code (v : Value) (l : List UInt8) (s : ByteArray) (lo : Nat) (w : World) (hlo : lo ≤ w.heap.size) (hown : Hid (w.ownsRow lo 5 1 v l.length (Lib.byteCells l))) (hb : l.length + 2 * s.size ≤ 100000000000) :
    Calls Tryz.prog 212 #[v, .string s] w (KeyPost lo w v (l ++ keyS s.data.toList)) := by
  obtain ⟨i5, hi5, hz0, hz1, hz2⟩ := info_parts Q5
  go_enter Tryz.func212, Tryz.ntmps212
  go_wp2_with fail
  go_loopw [0, 8] (fun kv iv wr => ∃ i : Nat, i ≤ s.size ∧ iv = .int .i64 i ∧ Hid (KeyAt lo w v.ownBlock wr kv (l ++ (s.data.toList.take i).flatMap keyB))) (fun _ iv _ => s.size - (intOf iv).toNat)
  case atStart => exact ⟨0, Nat.zero_le _, rfl, by simpa [Hid] using KeyAt.start hown.out⟩
  case round =>
    obtain ⟨i, hi, rfl, hK⟩ := hrel
    obtain ⟨li, hli⟩ : ∃ z, Hid (l ++ (s.data.toList.take i).flatMap keyB = z) := ⟨_, hid_e rfl⟩
    rw [hli.out] at hK
    have hll : li.length ≤ 100000000000 := by
      rw [← hli.out, List.length_append]
      have h1 := flat_len (s.data.toList.take i)
      have h2 : (s.data.toList.take i).length ≤ i := by simp; omega
      omega
    have hbd : ∀ m : Nat, m ≤ 100 → li.length + m ≤ maxLen ∧ (li.length + m) * 1 ≤ 140737488355328 := fun m hm => by unfold maxLen; omega
    by_cases hlt : i < s.size
    · have i1 : (i : Int) < (s.size : Int) := by omega
      have he := byte_at hlt
      have htn := hid_e (take_next hlt)
      obtain ⟨b, hb0⟩ : ∃ z, Hid (s.data.getD i 0 = z) := ⟨_, hid_e rfl⟩
      rw [hb0.out] at he htn
      obtain ⟨c, hc⟩ : ∃ c : Nat, Hid (b.toNat = c) := ⟨_, hid_e rfl⟩
      have hbc : ((b.toNat : Nat) : Int) = (c : Int) := by rw [hc.out]
      go_upto_region 5 with (at_builtin; refine wpList_append_lies _ rfl _ _ 111 rfl lo 5 i5 _ 1 1 Tryz.underlying111 hi5 hz0 hz1 hz2 rfl (by decide) _ li.length _ rfl (hK.out.own.alloc _) ⟨wr.heap.size, 0, none⟩ 1 1 [.int .u8 (c : Int)] rfl rfl (World.news_of_block (heap_alloc_new wr (.cells #[.int .u8 (c : Int)] 5))) (fun u hu => by obtain rfl := List.mem_singleton.1 hu; rfl) (by decide) (hbd 1 (by decide)).1 (hbd 1 (by decide)).2 (by rw [World.size_alloc]; have := hK.out.grown.size; omega) _ rfl ?_; intro ga capa Wa ho hgr hat hlta)
      obtain ⟨la, hla⟩ : ∃ z, Hid (li ++ [b] = z) := ⟨_, hid_e rfl⟩
      have hna : Hid (li.length + 1 = la.length) := by rw [Hid, ← hla.out, List.length_append]; rfl
      have hKa : Hid (KeyAt lo w v.ownBlock Wa (.slice (some ⟨ga, 0, none⟩) la.length capa) la) := by
        rw [Hid, ← hna.out, ← hla.out]
        exact (hK.out.alloc (.cells #[.int .u8 (c : Int)] 5)).app rfl (by simp [Lib.byteCells, hbc]) ho hgr hat
      rw [hna.out]
      clear ho hgr hat hlta
      have hbd2 : ∀ m : Nat, m ≤ 100 → la.length + m ≤ maxLen ∧ (la.length + m) * 1 ≤ 140737488355328 := fun m hm => by have := hna.out; unfold maxLen; omega
      by_cases h0 : c = 0
      · subst h0
        have hb00 : Hid (b = 0) := by apply UInt8.toNat_inj.1; rw [hc.out]; rfl
        go_wp2_with (at_builtin; refine wpList_append_lies _ rfl _ _ 111 rfl lo 5 i5 _ 1 1 Tryz.underlying111 hi5 hz0 hz1 hz2 rfl (by decide) (.slice (some ⟨ga, 0, none⟩) la.length capa) la.length _ rfl (hKa.out.own.alloc _) ⟨Wa.heap.size, 0, none⟩ 1 1 [.int .u8 255] rfl rfl (World.news_of_block (heap_alloc_new Wa (.cells #[.int .u8 255] 5))) (fun u hu => by obtain rfl := List.mem_singleton.1 hu; rfl) (by decide) (hbd2 1 (by decide)).1 (hbd2 1 (by decide)).2 (by rw [World.size_alloc]; have := hKa.out.grown.size; omega) _ rfl ?_; intro gb capb Wb ho hgr hat hltb)
        obtain ⟨lb, hlb⟩ : ∃ z, Hid (la ++ [255] = z) := ⟨_, hid_e rfl⟩
        have hnb : Hid (la.length + 1 = lb.length) := by rw [Hid, ← hlb.out, List.length_append]; rfl
        have hKb : Hid (KeyAt lo w v.ownBlock Wb (.slice (some ⟨gb, 0, none⟩) lb.length capb) lb) := by
          rw [Hid, ← hnb.out, ← hlb.out]
          exact (hKa.out.alloc (.cells #[.int .u8 255] 5)).app rfl (by simp [Lib.byteCells]) ho hgr hat
        rw [hnb.out]
        clear ho hgr hat hltb
        have hK2 : Hid (KeyAt lo w v.ownBlock Wb (.slice (some ⟨gb, 0, none⟩) lb.length capb) (l ++ (s.data.toList.take (i + 1)).flatMap keyB)) := by
          have e : l ++ (s.data.toList.take (i + 1)).flatMap keyB = lb := by rw [htn.out, List.flatMap_append, ← List.append_assoc, hli.out, ← hlb.out, ← hla.out, hb00.out]; simp [keyB]
          rw [Hid, e]
          exact hKb.out
        go_wp2_with fail
        go_roundw
        case rel => exact ⟨i + 1, by omega, by go_num, hK2⟩
        case measure => simp [intOf]; omega
      · have hz : ((c : Int) == 0) = false := by simp; omega
        have hb00 : Hid (b ≠ 0) := by intro e; have h1 := hc.out; rw [e] at h1; exact h0 h1.symm
        have hK2 : Hid (KeyAt lo w v.ownBlock Wa (.slice (some ⟨ga, 0, none⟩) la.length capa) (l ++ (s.data.toList.take (i + 1)).flatMap keyB)) := by
          have e : l ++ (s.data.toList.take (i + 1)).flatMap keyB = la := by rw [htn.out, List.flatMap_append, ← List.append_assoc, hli.out, ← hla.out]; simp [keyB, hb00.out]
          rw [Hid, e]
          exact hKa.out
        go_wp2_with fail
        go_roundw
        case rel => exact ⟨i + 1, by omega, by go_num, hK2⟩
        case measure => simp [intOf]; omega
    · obtain rfl : i = s.size := by omega
      go_wp2_with (at_builtin; refine wpList_append_lies _ rfl _ _ 111 rfl lo 5 i5 _ 1 1 Tryz.underlying111 hi5 hz0 hz1 hz2 rfl (by decide) _ li.length _ rfl (hK.out.own.alloc _) ⟨wr.heap.size, 0, none⟩ 2 2 [.int .u8 0, .int .u8 1] rfl rfl (World.news_of_block (heap_alloc_new wr (.cells #[.int .u8 0, .int .u8 1] 5))) (fun u hu => by simp only [List.mem_cons, List.not_mem_nil, or_false] at hu; rcases hu with rfl | rfl <;> rfl) (by decide) (hbd 2 (by decide)).1 (hbd 2 (by decide)).2 (by rw [World.size_alloc]; have := hK.out.grown.size; omega) _ rfl ?_; intro ge cape We ho hgr hat hlte)
      obtain ⟨le, hle⟩ : ∃ z, Hid (li ++ [0, 1] = z) := ⟨_, hid_e rfl⟩
      have hne : Hid (li.length + 2 = le.length) := by rw [Hid, ← hle.out, List.length_append]; rfl
      have hKe : Hid (KeyAt lo w v.ownBlock We (.slice (some ⟨ge, 0, none⟩) le.length cape) le) := by
        rw [Hid, ← hne.out, ← hle.out]
        exact (hK.out.alloc (.cells #[.int .u8 0, .int .u8 1] 5)).app rfl (by simp [Lib.byteCells]) ho hgr hat
      rw [hne.out]
      clear ho hgr hat hlte
      have hK2 : Hid (KeyAt lo w v.ownBlock We (.slice (some ⟨ge, 0, none⟩) le.length cape) (l ++ keyS s.data.toList)) := by
        have e : l ++ keyS s.data.toList = le := by rw [← hle.out, ← hli.out, List.take_of_length_le (by rw [Array.length_toList]; exact Nat.le_refl _)]; unfold keyS; rw [List.append_assoc]
        rw [Hid, e]
        exact hKe.out
      go_wp2_with fail
      go_ret
      exact ⟨_, rfl, hK2.out⟩
end Go.Proofs.YthgnkhpomhcdkaaGreatDoor
/-! order's laidNumber. -/
namespace Go.Proofs.YthgnkhpomhcdkaaGreatDoor
open Go Go.RowKit

theorem wrap_lift (x : Int) (hx : -9223372036854775808 ≤ x ∧ x ≤ 9223372036854775807) : IntKind.u64.wrap (IntKind.u64.wrap x + 9223372036854775808) = x + 9223372036854775808 := by
  rw [IntKind.wrap_u64, IntKind.wrap_u64]; omega
theorem be_at : ∀ (n u i : Nat), u < 256 ^ n → i < n → (be n u)[i]? = some (UInt8.ofNat (u / 256 ^ (n - 1 - i) % 256))
  | 0, u, i, _, h => absurd h (by omega)
  | n + 1, u, 0, hu, _ => by
    have hp : 0 < 256 ^ n := Nat.pow_pos (by decide)
    have hu1 : u / 256 ^ n < 256 := by rw [Nat.div_lt_iff_lt_mul hp, ← Nat.pow_succ']; exact hu
    rw [be]
    simp only [List.getElem?_cons_zero, Nat.add_sub_cancel, Nat.sub_zero]
    rw [Nat.mod_eq_of_lt hu1]
  | n + 1, u, i + 1, hu, hi => by
    have hp : 0 < 256 ^ n := Nat.pow_pos (by decide)
    rw [be, List.getElem?_cons_succ, be_at n (u % 256 ^ n) i (Nat.mod_lt _ hp) (by omega)]
    have e1 : n + 1 - 1 - (i + 1) = n - 1 - i := by omega
    rw [e1]
    congr 2
    have e2 : 256 ^ n = 256 ^ (n - 1 - i) * 256 ^ (i + 1) := by rw [← Nat.pow_add]; congr 1; omega
    rw [e2, Nat.mod_mul_right_div_self, Nat.pow_succ', Nat.mod_mul_right_mod]
theorem be_next {u i D : Nat} (hu : u < 256 ^ 8) (hi : i < 8) (hD : 256 ^ (8 - 1 - i) = D) : (be 8 u).take (i + 1) = (be 8 u).take i ++ [UInt8.ofNat (u / D % 256)] := by
  rw [List.take_add_one, be_at 8 u i hu hi, hD]
  rfl
set_option maxHeartbeats 8000000 in
set_option maxRecDepth 100000 in
theorem number_code (v : Value) (l : List UInt8) (x : Int) (lo : Nat) (w : World) (hx : -9223372036854775808 ≤ x ∧ x ≤ 9223372036854775807) (hlo : lo ≤ w.heap.size) (hown : Hid (w.ownsRow lo 5 1 v l.length (Lib.byteCells l))) (hb : l.length ≤ 100000000000) :
    Calls Tryz.prog 211 #[v, .int .i64 x] w (KeyPost lo w v (l ++ keyN x)) := by
  obtain ⟨i5, hi5, hz0, hz1, hz2⟩ := info_parts Q5
  obtain ⟨u, hu⟩ : ∃ u : Nat, Hid ((x + 9223372036854775808).toNat = u) := ⟨_, hid_e rfl⟩
  have hux : Hid (x + 9223372036854775808 = (u : Int)) := by rw [Hid, ← hu.out]; omega
  have hw := wrap_lift x hx
  rw [hux.out] at hw
  have hul : Hid (u < 256 ^ 8) := by have h1 := hux.out; rw [Hid]; omega
  have hkn : Hid (keyN x = be 8 u) := by unfold keyN; rw [Hid, hu.out]
  rw [hkn.out]
  go_enter Tryz.func211, Tryz.ntmps211
  go_wp2_with fail
  go_loopw [0, 10] (fun kv iv wr => ∃ i : Nat, i ≤ 8 ∧ iv = .int .i64 i ∧ Hid (KeyAt lo w v.ownBlock wr kv (l ++ (be 8 u).take i))) (fun _ iv _ => 8 - (intOf iv).toNat)
  case atStart => exact ⟨0, Nat.zero_le _, rfl, by simpa [Hid] using KeyAt.start hown.out⟩
  case round =>
    obtain ⟨i, hi, rfl, hK⟩ := hrel
    obtain ⟨li, hli⟩ : ∃ z, Hid (l ++ (be 8 u).take i = z) := ⟨_, hid_e rfl⟩
    rw [hli.out] at hK
    have hll : li.length ≤ 100000000008 := by
      rw [← hli.out, List.length_append]
      have h2 : ((be 8 u).take i).length ≤ i := by simp; omega
      omega
    have hbd : ∀ m : Nat, m ≤ 100 → li.length + m ≤ maxLen ∧ (li.length + m) * 1 ≤ 140737488355328 := fun m hm => by unfold maxLen; omega
    by_cases hlt : i < 8
    · have hcases : i = 0 ∨ i = 1 ∨ i = 2 ∨ i = 3 ∨ i = 4 ∨ i = 5 ∨ i = 6 ∨ i = 7 := by omega
      rcases hcases with rfl | rfl | rfl | rfl | rfl | rfl | rfl | rfl
      · have hnx := hid_e (be_next (i := 0) (D := 72057594037927936) hul.out (by decide) (by decide))
        obtain ⟨c, hc⟩ : ∃ c : Nat, Hid (u / 72057594037927936 % 256 = c) := ⟨_, hid_e rfl⟩
        rw [hc.out] at hnx
        have hq : (u : Int) / 72057594037927936 % 256 = (c : Int) := by have h1 := hc.out; omega
        have hc256 : c < 256 := by rw [← hc.out]; omega
        obtain ⟨b, hb0⟩ : ∃ z, Hid (UInt8.ofNat c = z) := ⟨_, hid_e rfl⟩
        have hbc : ((b.toNat : Nat) : Int) = (c : Int) := by rw [← hb0.out, UInt8.toNat_ofNat']; omega
        rw [hb0.out] at hnx
        go_wp2_with (at_builtin; refine wpList_append_lies _ rfl _ _ 111 rfl lo 5 i5 _ 1 1 Tryz.underlying111 hi5 hz0 hz1 hz2 rfl (by decide) _ li.length _ rfl (hK.out.own.alloc _) ⟨wr.heap.size, 0, none⟩ 1 1 [.int .u8 (c : Int)] rfl rfl (World.news_of_block (heap_alloc_new wr (.cells #[.int .u8 (c : Int)] 5))) (fun u hu => by obtain rfl := List.mem_singleton.1 hu; rfl) (by decide) (hbd 1 (by decide)).1 (hbd 1 (by decide)).2 (by rw [World.size_alloc]; have := hK.out.grown.size; omega) _ rfl ?_; intro ga capa Wa ho hgr hat hlta)
        obtain ⟨la, hla⟩ : ∃ z, Hid (li ++ [b] = z) := ⟨_, hid_e rfl⟩
        have hna : Hid (li.length + 1 = la.length) := by rw [Hid, ← hla.out, List.length_append]; rfl
        have hKa : Hid (KeyAt lo w v.ownBlock Wa (.slice (some ⟨ga, 0, none⟩) la.length capa) la) := by
          rw [Hid, ← hna.out, ← hla.out]
          exact (hK.out.alloc (.cells #[.int .u8 (c : Int)] 5)).app rfl (by simp [Lib.byteCells, hbc]) ho hgr hat
        rw [hna.out]
        clear ho hgr hat hlta
        have hK2 : Hid (KeyAt lo w v.ownBlock Wa (.slice (some ⟨ga, 0, none⟩) la.length capa) (l ++ (be 8 u).take (0 + 1))) := by
          have e : l ++ (be 8 u).take (0 + 1) = la := by rw [hnx.out, ← List.append_assoc, hli.out, ← hla.out]
          rw [Hid, e]
          exact hKa.out
        clear hq hbc
        go_wp2_with fail
        go_roundw
        case rel => exact ⟨0 + 1, by omega, by go_num, hK2⟩
        case measure => simp [intOf]
      · have hnx := hid_e (be_next (i := 1) (D := 281474976710656) hul.out (by decide) (by decide))
        obtain ⟨c, hc⟩ : ∃ c : Nat, Hid (u / 281474976710656 % 256 = c) := ⟨_, hid_e rfl⟩
        rw [hc.out] at hnx
        have hq : (u : Int) / 281474976710656 % 256 = (c : Int) := by have h1 := hc.out; omega
        have hc256 : c < 256 := by rw [← hc.out]; omega
        obtain ⟨b, hb0⟩ : ∃ z, Hid (UInt8.ofNat c = z) := ⟨_, hid_e rfl⟩
        have hbc : ((b.toNat : Nat) : Int) = (c : Int) := by rw [← hb0.out, UInt8.toNat_ofNat']; omega
        rw [hb0.out] at hnx
        go_wp2_with (at_builtin; refine wpList_append_lies _ rfl _ _ 111 rfl lo 5 i5 _ 1 1 Tryz.underlying111 hi5 hz0 hz1 hz2 rfl (by decide) _ li.length _ rfl (hK.out.own.alloc _) ⟨wr.heap.size, 0, none⟩ 1 1 [.int .u8 (c : Int)] rfl rfl (World.news_of_block (heap_alloc_new wr (.cells #[.int .u8 (c : Int)] 5))) (fun u hu => by obtain rfl := List.mem_singleton.1 hu; rfl) (by decide) (hbd 1 (by decide)).1 (hbd 1 (by decide)).2 (by rw [World.size_alloc]; have := hK.out.grown.size; omega) _ rfl ?_; intro ga capa Wa ho hgr hat hlta)
        obtain ⟨la, hla⟩ : ∃ z, Hid (li ++ [b] = z) := ⟨_, hid_e rfl⟩
        have hna : Hid (li.length + 1 = la.length) := by rw [Hid, ← hla.out, List.length_append]; rfl
        have hKa : Hid (KeyAt lo w v.ownBlock Wa (.slice (some ⟨ga, 0, none⟩) la.length capa) la) := by
          rw [Hid, ← hna.out, ← hla.out]
          exact (hK.out.alloc (.cells #[.int .u8 (c : Int)] 5)).app rfl (by simp [Lib.byteCells, hbc]) ho hgr hat
        rw [hna.out]
        clear ho hgr hat hlta
        have hK2 : Hid (KeyAt lo w v.ownBlock Wa (.slice (some ⟨ga, 0, none⟩) la.length capa) (l ++ (be 8 u).take (1 + 1))) := by
          have e : l ++ (be 8 u).take (1 + 1) = la := by rw [hnx.out, ← List.append_assoc, hli.out, ← hla.out]
          rw [Hid, e]
          exact hKa.out
        clear hq hbc
        go_wp2_with fail
        go_roundw
        case rel => exact ⟨1 + 1, by omega, by go_num, hK2⟩
        case measure => simp [intOf]
      · have hnx := hid_e (be_next (i := 2) (D := 1099511627776) hul.out (by decide) (by decide))
        obtain ⟨c, hc⟩ : ∃ c : Nat, Hid (u / 1099511627776 % 256 = c) := ⟨_, hid_e rfl⟩
        rw [hc.out] at hnx
        have hq : (u : Int) / 1099511627776 % 256 = (c : Int) := by have h1 := hc.out; omega
        have hc256 : c < 256 := by rw [← hc.out]; omega
        obtain ⟨b, hb0⟩ : ∃ z, Hid (UInt8.ofNat c = z) := ⟨_, hid_e rfl⟩
        have hbc : ((b.toNat : Nat) : Int) = (c : Int) := by rw [← hb0.out, UInt8.toNat_ofNat']; omega
        rw [hb0.out] at hnx
        go_wp2_with (at_builtin; refine wpList_append_lies _ rfl _ _ 111 rfl lo 5 i5 _ 1 1 Tryz.underlying111 hi5 hz0 hz1 hz2 rfl (by decide) _ li.length _ rfl (hK.out.own.alloc _) ⟨wr.heap.size, 0, none⟩ 1 1 [.int .u8 (c : Int)] rfl rfl (World.news_of_block (heap_alloc_new wr (.cells #[.int .u8 (c : Int)] 5))) (fun u hu => by obtain rfl := List.mem_singleton.1 hu; rfl) (by decide) (hbd 1 (by decide)).1 (hbd 1 (by decide)).2 (by rw [World.size_alloc]; have := hK.out.grown.size; omega) _ rfl ?_; intro ga capa Wa ho hgr hat hlta)
        obtain ⟨la, hla⟩ : ∃ z, Hid (li ++ [b] = z) := ⟨_, hid_e rfl⟩
        have hna : Hid (li.length + 1 = la.length) := by rw [Hid, ← hla.out, List.length_append]; rfl
        have hKa : Hid (KeyAt lo w v.ownBlock Wa (.slice (some ⟨ga, 0, none⟩) la.length capa) la) := by
          rw [Hid, ← hna.out, ← hla.out]
          exact (hK.out.alloc (.cells #[.int .u8 (c : Int)] 5)).app rfl (by simp [Lib.byteCells, hbc]) ho hgr hat
        rw [hna.out]
        clear ho hgr hat hlta
        have hK2 : Hid (KeyAt lo w v.ownBlock Wa (.slice (some ⟨ga, 0, none⟩) la.length capa) (l ++ (be 8 u).take (2 + 1))) := by
          have e : l ++ (be 8 u).take (2 + 1) = la := by rw [hnx.out, ← List.append_assoc, hli.out, ← hla.out]
          rw [Hid, e]
          exact hKa.out
        clear hq hbc
        go_wp2_with fail
        go_roundw
        case rel => exact ⟨2 + 1, by omega, by go_num, hK2⟩
        case measure => simp [intOf]
      · have hnx := hid_e (be_next (i := 3) (D := 4294967296) hul.out (by decide) (by decide))
        obtain ⟨c, hc⟩ : ∃ c : Nat, Hid (u / 4294967296 % 256 = c) := ⟨_, hid_e rfl⟩
        rw [hc.out] at hnx
        have hq : (u : Int) / 4294967296 % 256 = (c : Int) := by have h1 := hc.out; omega
        have hc256 : c < 256 := by rw [← hc.out]; omega
        obtain ⟨b, hb0⟩ : ∃ z, Hid (UInt8.ofNat c = z) := ⟨_, hid_e rfl⟩
        have hbc : ((b.toNat : Nat) : Int) = (c : Int) := by rw [← hb0.out, UInt8.toNat_ofNat']; omega
        rw [hb0.out] at hnx
        go_wp2_with (at_builtin; refine wpList_append_lies _ rfl _ _ 111 rfl lo 5 i5 _ 1 1 Tryz.underlying111 hi5 hz0 hz1 hz2 rfl (by decide) _ li.length _ rfl (hK.out.own.alloc _) ⟨wr.heap.size, 0, none⟩ 1 1 [.int .u8 (c : Int)] rfl rfl (World.news_of_block (heap_alloc_new wr (.cells #[.int .u8 (c : Int)] 5))) (fun u hu => by obtain rfl := List.mem_singleton.1 hu; rfl) (by decide) (hbd 1 (by decide)).1 (hbd 1 (by decide)).2 (by rw [World.size_alloc]; have := hK.out.grown.size; omega) _ rfl ?_; intro ga capa Wa ho hgr hat hlta)
        obtain ⟨la, hla⟩ : ∃ z, Hid (li ++ [b] = z) := ⟨_, hid_e rfl⟩
        have hna : Hid (li.length + 1 = la.length) := by rw [Hid, ← hla.out, List.length_append]; rfl
        have hKa : Hid (KeyAt lo w v.ownBlock Wa (.slice (some ⟨ga, 0, none⟩) la.length capa) la) := by
          rw [Hid, ← hna.out, ← hla.out]
          exact (hK.out.alloc (.cells #[.int .u8 (c : Int)] 5)).app rfl (by simp [Lib.byteCells, hbc]) ho hgr hat
        rw [hna.out]
        clear ho hgr hat hlta
        have hK2 : Hid (KeyAt lo w v.ownBlock Wa (.slice (some ⟨ga, 0, none⟩) la.length capa) (l ++ (be 8 u).take (3 + 1))) := by
          have e : l ++ (be 8 u).take (3 + 1) = la := by rw [hnx.out, ← List.append_assoc, hli.out, ← hla.out]
          rw [Hid, e]
          exact hKa.out
        clear hq hbc
        go_wp2_with fail
        go_roundw
        case rel => exact ⟨3 + 1, by omega, by go_num, hK2⟩
        case measure => simp [intOf]
      · have hnx := hid_e (be_next (i := 4) (D := 16777216) hul.out (by decide) (by decide))
        obtain ⟨c, hc⟩ : ∃ c : Nat, Hid (u / 16777216 % 256 = c) := ⟨_, hid_e rfl⟩
        rw [hc.out] at hnx
        have hq : (u : Int) / 16777216 % 256 = (c : Int) := by have h1 := hc.out; omega
        have hc256 : c < 256 := by rw [← hc.out]; omega
        obtain ⟨b, hb0⟩ : ∃ z, Hid (UInt8.ofNat c = z) := ⟨_, hid_e rfl⟩
        have hbc : ((b.toNat : Nat) : Int) = (c : Int) := by rw [← hb0.out, UInt8.toNat_ofNat']; omega
        rw [hb0.out] at hnx
        go_wp2_with (at_builtin; refine wpList_append_lies _ rfl _ _ 111 rfl lo 5 i5 _ 1 1 Tryz.underlying111 hi5 hz0 hz1 hz2 rfl (by decide) _ li.length _ rfl (hK.out.own.alloc _) ⟨wr.heap.size, 0, none⟩ 1 1 [.int .u8 (c : Int)] rfl rfl (World.news_of_block (heap_alloc_new wr (.cells #[.int .u8 (c : Int)] 5))) (fun u hu => by obtain rfl := List.mem_singleton.1 hu; rfl) (by decide) (hbd 1 (by decide)).1 (hbd 1 (by decide)).2 (by rw [World.size_alloc]; have := hK.out.grown.size; omega) _ rfl ?_; intro ga capa Wa ho hgr hat hlta)
        obtain ⟨la, hla⟩ : ∃ z, Hid (li ++ [b] = z) := ⟨_, hid_e rfl⟩
        have hna : Hid (li.length + 1 = la.length) := by rw [Hid, ← hla.out, List.length_append]; rfl
        have hKa : Hid (KeyAt lo w v.ownBlock Wa (.slice (some ⟨ga, 0, none⟩) la.length capa) la) := by
          rw [Hid, ← hna.out, ← hla.out]
          exact (hK.out.alloc (.cells #[.int .u8 (c : Int)] 5)).app rfl (by simp [Lib.byteCells, hbc]) ho hgr hat
        rw [hna.out]
        clear ho hgr hat hlta
        have hK2 : Hid (KeyAt lo w v.ownBlock Wa (.slice (some ⟨ga, 0, none⟩) la.length capa) (l ++ (be 8 u).take (4 + 1))) := by
          have e : l ++ (be 8 u).take (4 + 1) = la := by rw [hnx.out, ← List.append_assoc, hli.out, ← hla.out]
          rw [Hid, e]
          exact hKa.out
        clear hq hbc
        go_wp2_with fail
        go_roundw
        case rel => exact ⟨4 + 1, by omega, by go_num, hK2⟩
        case measure => simp [intOf]
      · have hnx := hid_e (be_next (i := 5) (D := 65536) hul.out (by decide) (by decide))
        obtain ⟨c, hc⟩ : ∃ c : Nat, Hid (u / 65536 % 256 = c) := ⟨_, hid_e rfl⟩
        rw [hc.out] at hnx
        have hq : (u : Int) / 65536 % 256 = (c : Int) := by have h1 := hc.out; omega
        have hc256 : c < 256 := by rw [← hc.out]; omega
        obtain ⟨b, hb0⟩ : ∃ z, Hid (UInt8.ofNat c = z) := ⟨_, hid_e rfl⟩
        have hbc : ((b.toNat : Nat) : Int) = (c : Int) := by rw [← hb0.out, UInt8.toNat_ofNat']; omega
        rw [hb0.out] at hnx
        go_wp2_with (at_builtin; refine wpList_append_lies _ rfl _ _ 111 rfl lo 5 i5 _ 1 1 Tryz.underlying111 hi5 hz0 hz1 hz2 rfl (by decide) _ li.length _ rfl (hK.out.own.alloc _) ⟨wr.heap.size, 0, none⟩ 1 1 [.int .u8 (c : Int)] rfl rfl (World.news_of_block (heap_alloc_new wr (.cells #[.int .u8 (c : Int)] 5))) (fun u hu => by obtain rfl := List.mem_singleton.1 hu; rfl) (by decide) (hbd 1 (by decide)).1 (hbd 1 (by decide)).2 (by rw [World.size_alloc]; have := hK.out.grown.size; omega) _ rfl ?_; intro ga capa Wa ho hgr hat hlta)
        obtain ⟨la, hla⟩ : ∃ z, Hid (li ++ [b] = z) := ⟨_, hid_e rfl⟩
        have hna : Hid (li.length + 1 = la.length) := by rw [Hid, ← hla.out, List.length_append]; rfl
        have hKa : Hid (KeyAt lo w v.ownBlock Wa (.slice (some ⟨ga, 0, none⟩) la.length capa) la) := by
          rw [Hid, ← hna.out, ← hla.out]
          exact (hK.out.alloc (.cells #[.int .u8 (c : Int)] 5)).app rfl (by simp [Lib.byteCells, hbc]) ho hgr hat
        rw [hna.out]
        clear ho hgr hat hlta
        have hK2 : Hid (KeyAt lo w v.ownBlock Wa (.slice (some ⟨ga, 0, none⟩) la.length capa) (l ++ (be 8 u).take (5 + 1))) := by
          have e : l ++ (be 8 u).take (5 + 1) = la := by rw [hnx.out, ← List.append_assoc, hli.out, ← hla.out]
          rw [Hid, e]
          exact hKa.out
        clear hq hbc
        go_wp2_with fail
        go_roundw
        case rel => exact ⟨5 + 1, by omega, by go_num, hK2⟩
        case measure => simp [intOf]
      · have hnx := hid_e (be_next (i := 6) (D := 256) hul.out (by decide) (by decide))
        obtain ⟨c, hc⟩ : ∃ c : Nat, Hid (u / 256 % 256 = c) := ⟨_, hid_e rfl⟩
        rw [hc.out] at hnx
        have hq : (u : Int) / 256 % 256 = (c : Int) := by have h1 := hc.out; omega
        have hc256 : c < 256 := by rw [← hc.out]; omega
        obtain ⟨b, hb0⟩ : ∃ z, Hid (UInt8.ofNat c = z) := ⟨_, hid_e rfl⟩
        have hbc : ((b.toNat : Nat) : Int) = (c : Int) := by rw [← hb0.out, UInt8.toNat_ofNat']; omega
        rw [hb0.out] at hnx
        go_wp2_with (at_builtin; refine wpList_append_lies _ rfl _ _ 111 rfl lo 5 i5 _ 1 1 Tryz.underlying111 hi5 hz0 hz1 hz2 rfl (by decide) _ li.length _ rfl (hK.out.own.alloc _) ⟨wr.heap.size, 0, none⟩ 1 1 [.int .u8 (c : Int)] rfl rfl (World.news_of_block (heap_alloc_new wr (.cells #[.int .u8 (c : Int)] 5))) (fun u hu => by obtain rfl := List.mem_singleton.1 hu; rfl) (by decide) (hbd 1 (by decide)).1 (hbd 1 (by decide)).2 (by rw [World.size_alloc]; have := hK.out.grown.size; omega) _ rfl ?_; intro ga capa Wa ho hgr hat hlta)
        obtain ⟨la, hla⟩ : ∃ z, Hid (li ++ [b] = z) := ⟨_, hid_e rfl⟩
        have hna : Hid (li.length + 1 = la.length) := by rw [Hid, ← hla.out, List.length_append]; rfl
        have hKa : Hid (KeyAt lo w v.ownBlock Wa (.slice (some ⟨ga, 0, none⟩) la.length capa) la) := by
          rw [Hid, ← hna.out, ← hla.out]
          exact (hK.out.alloc (.cells #[.int .u8 (c : Int)] 5)).app rfl (by simp [Lib.byteCells, hbc]) ho hgr hat
        rw [hna.out]
        clear ho hgr hat hlta
        have hK2 : Hid (KeyAt lo w v.ownBlock Wa (.slice (some ⟨ga, 0, none⟩) la.length capa) (l ++ (be 8 u).take (6 + 1))) := by
          have e : l ++ (be 8 u).take (6 + 1) = la := by rw [hnx.out, ← List.append_assoc, hli.out, ← hla.out]
          rw [Hid, e]
          exact hKa.out
        clear hq hbc
        go_wp2_with fail
        go_roundw
        case rel => exact ⟨6 + 1, by omega, by go_num, hK2⟩
        case measure => simp [intOf]
      · have hnx := hid_e (be_next (i := 7) (D := 1) hul.out (by decide) (by decide))
        obtain ⟨c, hc⟩ : ∃ c : Nat, Hid (u / 1 % 256 = c) := ⟨_, hid_e rfl⟩
        rw [hc.out] at hnx
        have hq : (u : Int) % 256 = (c : Int) := by have h1 := hc.out; omega
        have hc256 : c < 256 := by rw [← hc.out]; omega
        obtain ⟨b, hb0⟩ : ∃ z, Hid (UInt8.ofNat c = z) := ⟨_, hid_e rfl⟩
        have hbc : ((b.toNat : Nat) : Int) = (c : Int) := by rw [← hb0.out, UInt8.toNat_ofNat']; omega
        rw [hb0.out] at hnx
        go_wp2_with (at_builtin; refine wpList_append_lies _ rfl _ _ 111 rfl lo 5 i5 _ 1 1 Tryz.underlying111 hi5 hz0 hz1 hz2 rfl (by decide) _ li.length _ rfl (hK.out.own.alloc _) ⟨wr.heap.size, 0, none⟩ 1 1 [.int .u8 (c : Int)] rfl rfl (World.news_of_block (heap_alloc_new wr (.cells #[.int .u8 (c : Int)] 5))) (fun u hu => by obtain rfl := List.mem_singleton.1 hu; rfl) (by decide) (hbd 1 (by decide)).1 (hbd 1 (by decide)).2 (by rw [World.size_alloc]; have := hK.out.grown.size; omega) _ rfl ?_; intro ga capa Wa ho hgr hat hlta)
        obtain ⟨la, hla⟩ : ∃ z, Hid (li ++ [b] = z) := ⟨_, hid_e rfl⟩
        have hna : Hid (li.length + 1 = la.length) := by rw [Hid, ← hla.out, List.length_append]; rfl
        have hKa : Hid (KeyAt lo w v.ownBlock Wa (.slice (some ⟨ga, 0, none⟩) la.length capa) la) := by
          rw [Hid, ← hna.out, ← hla.out]
          exact (hK.out.alloc (.cells #[.int .u8 (c : Int)] 5)).app rfl (by simp [Lib.byteCells, hbc]) ho hgr hat
        rw [hna.out]
        clear ho hgr hat hlta
        have hK2 : Hid (KeyAt lo w v.ownBlock Wa (.slice (some ⟨ga, 0, none⟩) la.length capa) (l ++ (be 8 u).take (7 + 1))) := by
          have e : l ++ (be 8 u).take (7 + 1) = la := by rw [hnx.out, ← List.append_assoc, hli.out, ← hla.out]
          rw [Hid, e]
          exact hKa.out
        clear hq hbc
        go_wp2_with fail
        go_roundw
        case rel => exact ⟨7 + 1, by omega, by go_num, hK2⟩
        case measure => simp [intOf]
    · obtain rfl : i = 8 := by omega
      have e : l ++ be 8 u = li := by rw [← hli.out, List.take_of_length_le (by rw [be_len]; exact Nat.le_refl _)]
      have hK2 : Hid (KeyAt lo w v.ownBlock wr u0 (l ++ be 8 u)) := by rw [Hid, e]; exact hK.out
      go_wp2_with fail
      go_ret
      exact ⟨_, rfl, hK2.out⟩
end Go.Proofs.YthgnkhpomhcdkaaGreatDoor
/-! order's laid: the bytes of every value that Check lets through. -/
namespace Go.Proofs.YthgnkhpomhcdkaaGreatDoor
open Go Go.RowKit

theorem own_ne {lo : Nat} {w : World} {kv : Value} {n g : Nat} {xs : List Value} {b : Array Value} (h : w.ownsRow lo 5 1 kv n xs) (hx : w.heap[g]? = some (.cells b 28 (0, 0))) : kv.ownBlock ≠ some g := by
  intro e
  rcases h.2 with ⟨hv, _⟩ | ⟨g', cap', cur, hv, hg, hh, _⟩
  · subst hv; simp [Value.ownBlock] at e
  · subst hv
    have : g' = g := by simpa [Value.ownBlock] using e
    subst this
    rw [hx] at hh
    simp at hh
theorem KeyAt.below {lo : Nat} {w0 w wr : World} {v kv : Value} {l l' : List UInt8} (h : KeyAt lo w v.ownBlock wr kv l) (hB : Below w0.heap.size w0 w) (hl0 : w0.heap.size ≤ lo) (hown : w.ownsRow lo 5 1 v l'.length (Lib.byteCells l')) : Below w0.heap.size w0 wr :=
  hB.trans (grown_below h.grown hB.size (fun _ hg => Nat.le_trans hl0 (ownsRow_ge hown hg).1))
theorem KeyAt.call {lo : Nat} {w0 wr w' : World} {b0 : Option Nat} {kv kv' : Value} {l l' : List UInt8} (h : KeyAt lo w0 b0 wr kv l) (h' : KeyAt lo wr kv.ownBlock w' kv' l') : KeyAt lo w0 b0 w' kv' l' := h.step h'.own h'.grown h'.pos
theorem box_stay {lo : Nat} {wr w' : World} {kv : Value} {n g : Nat} {xs : List Value} {b : Array Value} (h : wr.ownsRow lo 5 1 kv n xs) (hg : wr.grownBy w' kv.ownBlock) (hx : wr.heap[g]? = some (.cells b 28 (0, 0))) : w'.heap[g]? = some (.cells b 28 (0, 0)) :=
  (hg.block g (Array.getElem?_eq_some_iff.1 hx).1 (fun e => own_ne h hx e.symm)).trans hx
theorem box_alloc {wr : World} {g : Nat} {b : Array Value} (hx : wr.heap[g]? = some (.cells b 28 (0, 0))) (o : Obj) : (wr.alloc o).heap[g]? = some (.cells b 28 (0, 0)) := (alloc_old (Array.getElem?_eq_some_iff.1 hx).1).trans hx
theorem keyS_len (s : List UInt8) : s.length + 2 ≤ (keyS s).length := by
  unfold keyS
  rw [List.length_append]
  have : s.length ≤ (s.flatMap keyB).length := by
    induction s with
    | nil => simp
    | cons b t ih =>
      rw [List.flatMap_cons, List.length_append, List.length_cons]
      have : 1 ≤ (keyB b).length := by unfold keyB; split <;> simp
      omega
  simp only [List.length_cons, List.length_nil]
  omega
theorem kyL_acc (its : List Tr) : kyL its = its.flatMap (fun t => 2 :: keyT t) ++ [1] := by
  induction its with
  | nil => rw [kyL]; rfl
  | cons t ts ih => rw [kyL, ih, List.flatMap_cons]; simp
theorem kyM_acc : (ns : List ByteArray) → (its : List Tr) → ns.length = its.length → kyM ns its = (ns.zip its).flatMap (fun p => 2 :: (keyS p.1.data.toList ++ keyT p.2)) ++ [1]
  | [], [], _ => by rw [ky_nil]; rfl
  | n :: ns, t :: ts, h => by rw [kyM, kyM_acc ns ts (by simpa using h), List.zip_cons_cons, List.flatMap_cons]; simp
theorem flat_next {α : Type} (f : α → List UInt8) {l : List α} {i : Nat} {u : α} (h : l[i]? = some u) : (l.take (i + 1)).flatMap f = (l.take i).flatMap f ++ f u := by
  rw [List.take_add_one, h, List.flatMap_append]
  simp
theorem flat_mono {α : Type} (f : α → List UInt8) (l : List α) (i : Nat) : ((l.take i).flatMap f).length ≤ (l.flatMap f).length := by
  have h : (l.flatMap f).length = ((l.take i ++ l.drop i).flatMap f).length := by rw [List.take_append_drop]
  rw [h, List.flatMap_append, List.length_append]
  omega
/-- What the walk asks of the items. -/
def LaidOks (w0 : World) (lo : Nat) (its : List Tr) : Prop := ∀ (i : Nat) (u : Tr), its[i]? = some u → ∀ (cs : List Value) (W : World) (v : Value) (l : List UInt8), VRep w0 u cs → Below w0.heap.size w0 W → lo ≤ W.heap.size → W.ownsRow lo 5 1 v l.length (Lib.byteCells l) → l.length + 2 * (keyT u).length ≤ 100000000000 →
  Calls Tryz.prog 184 #[v, .agg cs.toArray] W (KeyPost lo W v (l ++ keyT u))
set_option maxHeartbeats 8000000 in
set_option maxRecDepth 100000 in
theorem laid_3 (x : Int) (s : ByteArray) (an : Option Addr) (ln cn : Nat) (ai : Option Addr) (li ci : Nat) (v : Value) (l : List UInt8) (lo : Nat) (w : World) (hx : -9223372036854775808 ≤ x ∧ x ≤ 9223372036854775807) (hlo : lo ≤ w.heap.size) (hown : Hid (w.ownsRow lo 5 1 v l.length (Lib.byteCells l))) (hb : l.length + 2 * (1 + (keyN x).length) ≤ 100000000000) :
    Calls Tryz.prog 184 #[v, .agg #[.int .i64 3, .int .i64 x, .string s, .slice an ln cn, .slice ai li ci]] w (KeyPost lo w v (l ++ 16 :: keyN x)) := by
  obtain ⟨i5, hi5, hz0, hz1, hz2⟩ := info_parts Q5
  have hbd : l.length + 1 ≤ maxLen ∧ (l.length + 1) * 1 ≤ 140737488355328 := by unfold maxLen; omega
  have hK0 := hid_e ((KeyAt.start hown.out).alloc (.cells #[.int .i64 3, .int .i64 x, .string s, .slice an ln cn, .slice ai li ci] 28))
  have n1 := heap_alloc_new w (.cells #[.int .i64 3, .int .i64 x, .string s, .slice an ln cn, .slice ai li ci] 28)
  go_enter Tryz.func184, Tryz.ntmps184
  go_upto_region 3 with fail
  generalize w.alloc (.cells #[.int .i64 3, .int .i64 x, .string s, .slice an ln cn, .slice ai li ci] 28) = X0 at n1 hK0 ⊢
  replace n1 : (X0).drew.heap[w.heap.size]? = some (.cells #[.int .i64 3, .int .i64 x, .string s, .slice an ln cn, .slice ai li ci] 28 (0, 0)) := n1
  replace hK0 := hid_e hK0.out.drew
  generalize hX : (X0).drew = X at n1 hK0
  refine wp_region_noPanic ?_
  refine Until.wp_region_U (fun w' => w'.heap[w.heap.size]? = some (.cells #[.int .i64 3, .int .i64 x, .string s, .slice an ln cn, .slice ai li ci] 28 (0, 0))) (fun _ => True) 6 (by kernel_rfl) ?_
  rw [hX]
  clear hX
  refine Until.wpU_pure (i := 0) (oi := { dst := some 13, op := Op.move (Operand.tmp 0), type := 111, pos := "key.go:44", after := #[], guard := none }) (v := v) rfl (by kernel_rfl) (by kernel_rfl) (by kernel_rfl) (by kernel_rfl) (by kernel_rfl) (fun _ _ _ h => h) (n1) (fun _ => trivial) (by rfl) (by intro w'; go_simp) ?_
  try simp only [Act.put, List.setIfInBounds_toArray, List.set_cons_zero, List.set_cons_succ]
  refine Until.wpU_pure (i := 3) (oi := { dst := some 16, op := Op.fieldAddr 28 (Operand.tmp 3) 1, type := 0, pos := "key.go:44", after := #[], guard := none }) (v := .pointer (some ⟨w.heap.size, 1, none⟩)) rfl (by kernel_rfl) (by kernel_rfl) (by kernel_rfl) (by kernel_rfl) (by kernel_rfl) (fun _ _ _ h => h) (n1) (fun _ => trivial) (by rfl) (by intro w'; go_simp) ?_
  try simp only [Act.put, List.setIfInBounds_toArray, List.set_cons_zero, List.set_cons_succ]
  refine Until.wpU_load0 (i := 4) (oi := { dst := some 17, op := Op.load 2 (Operand.tmp 16), type := 2, pos := "key.go:44", after := #[{ on := 3, ground := Ground.data }], guard := none }) (v := .int .i64 x) rfl (by kernel_rfl) (by kernel_rfl) (by kernel_rfl) (by kernel_rfl) (by kernel_rfl) (fun _ _ _ h => h) (n1) (fun _ => trivial) (by rfl) (by intro w' hw'; obtain ⟨t0, t1, t2, t3, t4, -⟩ := row_cells hw'; go_simp) ?_
  try simp only [Act.put, List.setIfInBounds_toArray, List.set_cons_zero, List.set_cons_succ]
  refine Until.wpU_ready (rs := [1]) (by kernel_rfl) (by simp) ?_
  refine (Until.AllU.cons (o := { dst := some 14, op := Op.buildSlice 111 1 #[(0, Operand.const (Value.int IntKind.u8 16))], type := 111, pos := "key.go:44", after := #[], guard := none }) rfl (fun K hK => ?_) Until.AllU.nil)
  go_simp
  have n2 := box_alloc n1 (.cells #[.int .u8 16] 5)
  refine hK.out _ _ (n2) (fun _ => trivial) ?_
  clear hK K
  try simp only [Act.put, List.setIfInBounds_toArray, List.set_cons_zero, List.set_cons_succ]
  refine Until.wpU_ready (rs := [2]) (by kernel_rfl) (by simp) ?_
  refine (Until.AllU.cons (o := { dst := some 15, op := Op.call { callee := Callee.builtin Builtin.append, args := #[Operand.tmp 13, Operand.tmp 14], argTypes := #[111, 111] }, type := 111, pos := "key.go:44", after := #[{ on := 0, ground := Ground.data }, { on := 1, ground := Ground.data }], guard := none }) rfl (fun K hK => ?_) Until.AllU.nil)
  refine step_append_lies _ (by rfl) _ _ 111 (by rfl) lo 5 i5 _ 1 1 Tryz.underlying111 hi5 hz0 hz1 hz2 (by rfl) (by decide) (v) l.length _ (by rfl) (hK0.out.own.alloc _) ⟨X.heap.size, 0, none⟩ 1 1 [.int .u8 16] (by rfl) (by rfl) (World.news_of_block (heap_alloc_new X (.cells #[.int .u8 16] 5))) (fun u hu => by obtain rfl := List.mem_singleton.1 hu; rfl) (by decide) hbd.1 hbd.2 (by rw [World.size_alloc]; have := hK0.out.grown.size; omega) _ rfl ?_
  intro ga capa Wa hoa hgra hata hlta
  have n3 := box_stay (hK0.out.own.alloc _) hgra n2
  obtain ⟨la, hla⟩ : ∃ z, Hid (l ++ [16] = z) := ⟨_, hid_e rfl⟩
  have hna : Hid (l.length + 1 = la.length) := by rw [Hid, ← hla.out, List.length_append]; rfl
  have hKa : Hid (KeyAt lo w v.ownBlock Wa (.slice (some ⟨ga, 0, none⟩) la.length capa) la) := by
    rw [Hid, ← hna.out, ← hla.out]
    exact (hK0.out.alloc (.cells #[.int .u8 16] 5)).app rfl (by simp [Lib.byteCells]) hoa hgra hata
  rw [hna.out]
  clear hoa hgra hata hlta
  refine hK.out _ _ (n3) (fun _ => trivial) ?_
  clear hK K
  try simp only [Act.put, List.setIfInBounds_toArray, List.set_cons_zero, List.set_cons_succ]
  refine Until.wpU_ready (rs := [5]) (by kernel_rfl) (by simp) ?_
  refine (Until.AllU.cons (o := { dst := some 18, op := Op.call { callee := Callee.value (Operand.func 211), args := #[Operand.tmp 15, Operand.tmp 17], argTypes := #[111, 2] }, type := 111, pos := "key.go:44", after := #[{ on := 2, ground := Ground.data }, { on := 4, ground := Ground.data }, { on := 2, ground := Ground.chain }], guard := none }) rfl (fun K hK => ?_) Until.AllU.nil)
  go_simp
  refine (number_code (.slice (some ⟨ga, 0, none⟩) la.length capa) la x lo Wa hx (Nat.le_trans hlo hKa.out.grown.size) (hid_e hKa.out.own) (by have := hna.out; omega)).mono ?_
  rintro e Wb ⟨kv, rfl, hKb⟩
  have n4 := box_stay hKa.out.own hKb.grown n3
  have hKc : Hid (KeyAt lo w v.ownBlock Wb kv (l ++ 16 :: keyN x)) := by
    have e : l ++ 16 :: keyN x = la ++ keyN x := by rw [← hla.out]; simp
    rw [Hid, e]
    exact hKa.out.call hKb
  refine hK.out _ _ (n4) (fun _ => trivial) ?_
  clear hK K
  try simp only [Act.put, List.setIfInBounds_toArray, List.set_cons_zero, List.set_cons_succ]
  refine Until.wpU_ready (rs := [6]) (by kernel_rfl) (by simp) ?_
  refine (Until.AllU.cons (o := { dst := some 4, op := Op.assign (Operand.tmp 18), type := 111, pos := "key.go:44", after := #[{ on := 5, ground := Ground.data }, { on := 5, ground := Ground.chain }, { on := 0, ground := Ground.phase }, { on := 1, ground := Ground.phase }, { on := 2, ground := Ground.phase }, { on := 3, ground := Ground.phase }, { on := 4, ground := Ground.phase }, { on := 5, ground := Ground.phase }], guard := none }) rfl (fun K hK => ?_) Until.AllU.nil)
  go_simp
  refine hK.out _ _ (n4) (fun _ => trivial) ?_
  clear hK K
  try simp only [Act.put, List.setIfInBounds_toArray, List.set_cons_zero, List.set_cons_succ]
  refine Until.wpU_done (by kernel_rfl) ?_ _
  refine NoPanic.normal ?_
  go_wp2_with fail
  go_ret
  exact ⟨_, rfl, hKc.out⟩
set_option maxHeartbeats 8000000 in
set_option maxRecDepth 100000 in
theorem laid_4 (x : Int) (s : ByteArray) (an : Option Addr) (ln cn : Nat) (ai : Option Addr) (li ci : Nat) (v : Value) (l : List UInt8) (lo : Nat) (w : World) (hlo : lo ≤ w.heap.size) (hown : Hid (w.ownsRow lo 5 1 v l.length (Lib.byteCells l))) (hb : l.length + 2 * (1 + (keyS s.data.toList).length) ≤ 100000000000) :
    Calls Tryz.prog 184 #[v, .agg #[.int .i64 4, .int .i64 x, .string s, .slice an ln cn, .slice ai li ci]] w (KeyPost lo w v (l ++ 32 :: keyS s.data.toList)) := by
  obtain ⟨i5, hi5, hz0, hz1, hz2⟩ := info_parts Q5
  have hbd : l.length + 1 ≤ maxLen ∧ (l.length + 1) * 1 ≤ 140737488355328 := by unfold maxLen; omega
  have hK0 := hid_e ((KeyAt.start hown.out).alloc (.cells #[.int .i64 4, .int .i64 x, .string s, .slice an ln cn, .slice ai li ci] 28))
  have n1 := heap_alloc_new w (.cells #[.int .i64 4, .int .i64 x, .string s, .slice an ln cn, .slice ai li ci] 28)
  go_enter Tryz.func184, Tryz.ntmps184
  go_upto_region 5 with fail
  generalize w.alloc (.cells #[.int .i64 4, .int .i64 x, .string s, .slice an ln cn, .slice ai li ci] 28) = X0 at n1 hK0 ⊢
  replace n1 : (X0).drew.heap[w.heap.size]? = some (.cells #[.int .i64 4, .int .i64 x, .string s, .slice an ln cn, .slice ai li ci] 28 (0, 0)) := n1
  replace hK0 := hid_e hK0.out.drew
  generalize hX : (X0).drew = X at n1 hK0
  refine wp_region_noPanic ?_
  refine Until.wp_region_U (fun w' => w'.heap[w.heap.size]? = some (.cells #[.int .i64 4, .int .i64 x, .string s, .slice an ln cn, .slice ai li ci] 28 (0, 0))) (fun _ => True) 6 (by kernel_rfl) ?_
  rw [hX]
  clear hX
  refine Until.wpU_pure (i := 0) (oi := { dst := some 21, op := Op.move (Operand.tmp 0), type := 111, pos := "key.go:46", after := #[], guard := none }) (v := v) rfl (by kernel_rfl) (by kernel_rfl) (by kernel_rfl) (by kernel_rfl) (by kernel_rfl) (fun _ _ _ h => h) (n1) (fun _ => trivial) (by rfl) (by intro w'; go_simp) ?_
  try simp only [Act.put, List.setIfInBounds_toArray, List.set_cons_zero, List.set_cons_succ]
  refine Until.wpU_pure (i := 3) (oi := { dst := some 24, op := Op.fieldAddr 28 (Operand.tmp 3) 2, type := 0, pos := "key.go:46", after := #[], guard := none }) (v := .pointer (some ⟨w.heap.size, 2, none⟩)) rfl (by kernel_rfl) (by kernel_rfl) (by kernel_rfl) (by kernel_rfl) (by kernel_rfl) (fun _ _ _ h => h) (n1) (fun _ => trivial) (by rfl) (by intro w'; go_simp) ?_
  try simp only [Act.put, List.setIfInBounds_toArray, List.set_cons_zero, List.set_cons_succ]
  refine Until.wpU_load0 (i := 4) (oi := { dst := some 25, op := Op.load 9 (Operand.tmp 24), type := 9, pos := "key.go:46", after := #[{ on := 3, ground := Ground.data }], guard := none }) (v := .string s) rfl (by kernel_rfl) (by kernel_rfl) (by kernel_rfl) (by kernel_rfl) (by kernel_rfl) (fun _ _ _ h => h) (n1) (fun _ => trivial) (by rfl) (by intro w' hw'; obtain ⟨t0, t1, t2, t3, t4, -⟩ := row_cells hw'; go_simp) ?_
  try simp only [Act.put, List.setIfInBounds_toArray, List.set_cons_zero, List.set_cons_succ]
  refine Until.wpU_ready (rs := [1]) (by kernel_rfl) (by simp) ?_
  refine (Until.AllU.cons (o := { dst := some 22, op := Op.buildSlice 111 1 #[(0, Operand.const (Value.int IntKind.u8 32))], type := 111, pos := "key.go:46", after := #[], guard := none }) rfl (fun K hK => ?_) Until.AllU.nil)
  go_simp
  have n2 := box_alloc n1 (.cells #[.int .u8 32] 5)
  refine hK.out _ _ (n2) (fun _ => trivial) ?_
  clear hK K
  try simp only [Act.put, List.setIfInBounds_toArray, List.set_cons_zero, List.set_cons_succ]
  refine Until.wpU_ready (rs := [2]) (by kernel_rfl) (by simp) ?_
  refine (Until.AllU.cons (o := { dst := some 23, op := Op.call { callee := Callee.builtin Builtin.append, args := #[Operand.tmp 21, Operand.tmp 22], argTypes := #[111, 111] }, type := 111, pos := "key.go:46", after := #[{ on := 0, ground := Ground.data }, { on := 1, ground := Ground.data }], guard := none }) rfl (fun K hK => ?_) Until.AllU.nil)
  refine step_append_lies _ (by rfl) _ _ 111 (by rfl) lo 5 i5 _ 1 1 Tryz.underlying111 hi5 hz0 hz1 hz2 (by rfl) (by decide) (v) l.length _ (by rfl) (hK0.out.own.alloc _) ⟨X.heap.size, 0, none⟩ 1 1 [.int .u8 32] (by rfl) (by rfl) (World.news_of_block (heap_alloc_new X (.cells #[.int .u8 32] 5))) (fun u hu => by obtain rfl := List.mem_singleton.1 hu; rfl) (by decide) hbd.1 hbd.2 (by rw [World.size_alloc]; have := hK0.out.grown.size; omega) _ rfl ?_
  intro ga capa Wa hoa hgra hata hlta
  have n3 := box_stay (hK0.out.own.alloc _) hgra n2
  obtain ⟨la, hla⟩ : ∃ z, Hid (l ++ [32] = z) := ⟨_, hid_e rfl⟩
  have hna : Hid (l.length + 1 = la.length) := by rw [Hid, ← hla.out, List.length_append]; rfl
  have hKa : Hid (KeyAt lo w v.ownBlock Wa (.slice (some ⟨ga, 0, none⟩) la.length capa) la) := by
    rw [Hid, ← hna.out, ← hla.out]
    exact (hK0.out.alloc (.cells #[.int .u8 32] 5)).app rfl (by simp [Lib.byteCells]) hoa hgra hata
  rw [hna.out]
  clear hoa hgra hata hlta
  refine hK.out _ _ (n3) (fun _ => trivial) ?_
  clear hK K
  try simp only [Act.put, List.setIfInBounds_toArray, List.set_cons_zero, List.set_cons_succ]
  refine Until.wpU_ready (rs := [5]) (by kernel_rfl) (by simp) ?_
  refine (Until.AllU.cons (o := { dst := some 26, op := Op.call { callee := Callee.value (Operand.func 212), args := #[Operand.tmp 23, Operand.tmp 25], argTypes := #[111, 9] }, type := 111, pos := "key.go:46", after := #[{ on := 2, ground := Ground.data }, { on := 4, ground := Ground.data }, { on := 2, ground := Ground.chain }], guard := none }) rfl (fun K hK => ?_) Until.AllU.nil)
  go_simp
  refine (text_code (.slice (some ⟨ga, 0, none⟩) la.length capa) la s lo Wa (Nat.le_trans hlo hKa.out.grown.size) (hid_e hKa.out.own) (by have h1 := hna.out; have h2 := keyS_len s.data.toList; rw [Array.length_toList] at h2; have h3 : s.data.size = s.size := rfl; omega)).mono ?_
  rintro e Wb ⟨kv, rfl, hKb⟩
  have n4 := box_stay hKa.out.own hKb.grown n3
  have hKc : Hid (KeyAt lo w v.ownBlock Wb kv (l ++ 32 :: keyS s.data.toList)) := by
    have e : l ++ 32 :: keyS s.data.toList = la ++ keyS s.data.toList := by rw [← hla.out]; simp
    rw [Hid, e]
    exact hKa.out.call hKb
  refine hK.out _ _ (n4) (fun _ => trivial) ?_
  clear hK K
  try simp only [Act.put, List.setIfInBounds_toArray, List.set_cons_zero, List.set_cons_succ]
  refine Until.wpU_ready (rs := [6]) (by kernel_rfl) (by simp) ?_
  refine (Until.AllU.cons (o := { dst := some 4, op := Op.assign (Operand.tmp 26), type := 111, pos := "key.go:46", after := #[{ on := 5, ground := Ground.data }, { on := 5, ground := Ground.chain }, { on := 0, ground := Ground.phase }, { on := 1, ground := Ground.phase }, { on := 2, ground := Ground.phase }, { on := 3, ground := Ground.phase }, { on := 4, ground := Ground.phase }, { on := 5, ground := Ground.phase }], guard := none }) rfl (fun K hK => ?_) Until.AllU.nil)
  go_simp
  refine hK.out _ _ (n4) (fun _ => trivial) ?_
  clear hK K
  try simp only [Act.put, List.setIfInBounds_toArray, List.set_cons_zero, List.set_cons_succ]
  refine Until.wpU_done (by kernel_rfl) ?_ _
  refine NoPanic.normal ?_
  go_wp2_with fail
  go_ret
  exact ⟨_, rfl, hKc.out⟩
set_option maxHeartbeats 8000000 in
set_option maxRecDepth 100000 in
theorem laid_0 (x : Int) (s : ByteArray) (an : Option Addr) (ln cn : Nat) (ai : Option Addr) (li ci : Nat) (v : Value) (l : List UInt8) (lo : Nat) (w : World) (hlo : lo ≤ w.heap.size) (hown : Hid (w.ownsRow lo 5 1 v l.length (Lib.byteCells l))) (hb : l.length + 2 ≤ 100000000000) :
    Calls Tryz.prog 184 #[v, .agg #[.int .i64 0, .int .i64 x, .string s, .slice an ln cn, .slice ai li ci]] w (KeyPost lo w v (l ++ [5])) := by
  obtain ⟨i5, hi5, hz0, hz1, hz2⟩ := info_parts Q5
  have hbd : l.length + 1 ≤ maxLen ∧ (l.length + 1) * 1 ≤ 140737488355328 := by unfold maxLen; omega
  have hK0 := hid_e ((KeyAt.start hown.out).alloc (.cells #[.int .i64 0, .int .i64 x, .string s, .slice an ln cn, .slice ai li ci] 28))
  go_enter Tryz.func184, Tryz.ntmps184
  go_upto_region 27 with fail
  generalize w.alloc (.cells #[.int .i64 0, .int .i64 x, .string s, .slice an ln cn, .slice ai li ci] 28) = X0 at hK0 ⊢
  go_wp2_with (at_builtin; refine wpList_append_lies _ rfl _ _ 111 rfl lo 5 i5 _ 1 1 Tryz.underlying111 hi5 hz0 hz1 hz2 rfl (by decide) (v) l.length _ rfl (hK0.out.own.alloc _) ⟨X0.heap.size, 0, none⟩ 1 1 [.int .u8 5] rfl rfl (World.news_of_block (heap_alloc_new X0 (.cells #[.int .u8 5] 5))) (fun u hu => by obtain rfl := List.mem_singleton.1 hu; rfl) (by decide) hbd.1 hbd.2 (by rw [World.size_alloc]; have := hK0.out.grown.size; omega) _ rfl ?_; intro ga capa Wa hoa hgra hata hlta)
  obtain ⟨la, hla⟩ : ∃ z, Hid (l ++ [5] = z) := ⟨_, hid_e rfl⟩
  have hna : Hid (l.length + 1 = la.length) := by rw [Hid, ← hla.out, List.length_append]; rfl
  have hKa : Hid (KeyAt lo w v.ownBlock Wa (.slice (some ⟨ga, 0, none⟩) la.length capa) la) := by
    rw [Hid, ← hna.out, ← hla.out]
    exact (hK0.out.alloc (.cells #[.int .u8 5] 5)).app rfl (by simp [Lib.byteCells]) hoa hgra hata
  rw [hna.out]
  clear hoa hgra hata hlta
  go_wp2_with fail
  go_ret
  exact ⟨_, rfl, by rw [hla.out]; exact hKa.out⟩
set_option maxHeartbeats 8000000 in
set_option maxRecDepth 100000 in
theorem laid_1 (x : Int) (s : ByteArray) (an : Option Addr) (ln cn : Nat) (ai : Option Addr) (li ci : Nat) (v : Value) (l : List UInt8) (lo : Nat) (w : World) (hlo : lo ≤ w.heap.size) (hown : Hid (w.ownsRow lo 5 1 v l.length (Lib.byteCells l))) (hb : l.length + 2 ≤ 100000000000) :
    Calls Tryz.prog 184 #[v, .agg #[.int .i64 1, .int .i64 x, .string s, .slice an ln cn, .slice ai li ci]] w (KeyPost lo w v (l ++ [80])) := by
  obtain ⟨i5, hi5, hz0, hz1, hz2⟩ := info_parts Q5
  have hbd : l.length + 1 ≤ maxLen ∧ (l.length + 1) * 1 ≤ 140737488355328 := by unfold maxLen; omega
  have hK0 := hid_e ((KeyAt.start hown.out).alloc (.cells #[.int .i64 1, .int .i64 x, .string s, .slice an ln cn, .slice ai li ci] 28))
  go_enter Tryz.func184, Tryz.ntmps184
  go_upto_region 24 with fail
  generalize w.alloc (.cells #[.int .i64 1, .int .i64 x, .string s, .slice an ln cn, .slice ai li ci] 28) = X0 at hK0 ⊢
  go_wp2_with (at_builtin; refine wpList_append_lies _ rfl _ _ 111 rfl lo 5 i5 _ 1 1 Tryz.underlying111 hi5 hz0 hz1 hz2 rfl (by decide) (v) l.length _ rfl (hK0.out.own.alloc _) ⟨X0.heap.size, 0, none⟩ 1 1 [.int .u8 80] rfl rfl (World.news_of_block (heap_alloc_new X0 (.cells #[.int .u8 80] 5))) (fun u hu => by obtain rfl := List.mem_singleton.1 hu; rfl) (by decide) hbd.1 hbd.2 (by rw [World.size_alloc]; have := hK0.out.grown.size; omega) _ rfl ?_; intro ga capa Wa hoa hgra hata hlta)
  obtain ⟨la, hla⟩ : ∃ z, Hid (l ++ [80] = z) := ⟨_, hid_e rfl⟩
  have hna : Hid (l.length + 1 = la.length) := by rw [Hid, ← hla.out, List.length_append]; rfl
  have hKa : Hid (KeyAt lo w v.ownBlock Wa (.slice (some ⟨ga, 0, none⟩) la.length capa) la) := by
    rw [Hid, ← hna.out, ← hla.out]
    exact (hK0.out.alloc (.cells #[.int .u8 80] 5)).app rfl (by simp [Lib.byteCells]) hoa hgra hata
  rw [hna.out]
  clear hoa hgra hata hlta
  go_wp2_with fail
  go_ret
  exact ⟨_, rfl, by rw [hla.out]; exact hKa.out⟩
set_option maxHeartbeats 8000000 in
set_option maxRecDepth 100000 in
theorem laid_2 (x : Int) (s : ByteArray) (an : Option Addr) (ln cn : Nat) (ai : Option Addr) (li ci : Nat) (v : Value) (l : List UInt8) (lo : Nat) (w : World) (hlo : lo ≤ w.heap.size) (hown : Hid (w.ownsRow lo 5 1 v l.length (Lib.byteCells l))) (hb : l.length + 2 ≤ 100000000000) :
    Calls Tryz.prog 184 #[v, .agg #[.int .i64 2, .int .i64 x, .string s, .slice an ln cn, .slice ai li ci]] w (KeyPost lo w v (l ++ [81])) := by
  obtain ⟨i5, hi5, hz0, hz1, hz2⟩ := info_parts Q5
  have hbd : l.length + 1 ≤ maxLen ∧ (l.length + 1) * 1 ≤ 140737488355328 := by unfold maxLen; omega
  have hK0 := hid_e ((KeyAt.start hown.out).alloc (.cells #[.int .i64 2, .int .i64 x, .string s, .slice an ln cn, .slice ai li ci] 28))
  go_enter Tryz.func184, Tryz.ntmps184
  go_upto_region 26 with fail
  generalize w.alloc (.cells #[.int .i64 2, .int .i64 x, .string s, .slice an ln cn, .slice ai li ci] 28) = X0 at hK0 ⊢
  go_wp2_with (at_builtin; refine wpList_append_lies _ rfl _ _ 111 rfl lo 5 i5 _ 1 1 Tryz.underlying111 hi5 hz0 hz1 hz2 rfl (by decide) (v) l.length _ rfl (hK0.out.own.alloc _) ⟨X0.heap.size, 0, none⟩ 1 1 [.int .u8 81] rfl rfl (World.news_of_block (heap_alloc_new X0 (.cells #[.int .u8 81] 5))) (fun u hu => by obtain rfl := List.mem_singleton.1 hu; rfl) (by decide) hbd.1 hbd.2 (by rw [World.size_alloc]; have := hK0.out.grown.size; omega) _ rfl ?_; intro ga capa Wa hoa hgra hata hlta)
  obtain ⟨la, hla⟩ : ∃ z, Hid (l ++ [81] = z) := ⟨_, hid_e rfl⟩
  have hna : Hid (l.length + 1 = la.length) := by rw [Hid, ← hla.out, List.length_append]; rfl
  have hKa : Hid (KeyAt lo w v.ownBlock Wa (.slice (some ⟨ga, 0, none⟩) la.length capa) la) := by
    rw [Hid, ← hna.out, ← hla.out]
    exact (hK0.out.alloc (.cells #[.int .u8 81] 5)).app rfl (by simp [Lib.byteCells]) hoa hgra hata
  rw [hna.out]
  clear hoa hgra hata hlta
  go_wp2_with fail
  go_ret
  exact ⟨_, rfl, by rw [hla.out]; exact hKa.out⟩
end Go.Proofs.YthgnkhpomhcdkaaGreatDoor
/-! order's laid: lists, objects, every value. -/
namespace Go.Proofs.YthgnkhpomhcdkaaGreatDoor
open Go Go.RowKit

theorem names_at {w : World} {an : Option Addr} {n cn : Nat} {ns : List ByteArray} {i : Nat} {nm : ByteArray} (h : Reads w (.slice an n cn) ns) (hi : ns[i]? = some nm) : ∃ gn on, an = some ⟨gn, on, none⟩ ∧ w.cell? ⟨gn, on + i, none⟩ = some (.string nm) := by
  obtain ⟨a0, c0, e, -, h⟩ := h
  obtain ⟨g, o, rfl, -, h⟩ := h.resolve_left (by intro e; subst e; simp at hi)
  simp only [Value.slice.injEq] at e
  exact ⟨g, o, e.1, h i nm hi⟩
set_option maxHeartbeats 8000000 in
set_option maxRecDepth 100000 in
theorem laid_5 (x : Int) (s : ByteArray) (an : Option Addr) (ln cn : Nat) (ai : Option Addr) (ci : Nat) (its : List Tr) (v : Value) (l : List UInt8) (lo : Nat) (w0 w : World) (hB : Below w0.heap.size w0 w) (hl0 : w0.heap.size ≤ lo) (hlo : lo ≤ w.heap.size) (hown : Hid (w.ownsRow lo 5 1 v l.length (Lib.byteCells l))) (hml : its.length ≤ 9223372036854775807) (hb : l.length + 2 * (1 + (kyL its).length) ≤ 100000000000) (hL : Hid (ItemsAt' w0 ai its)) (hI : Hid (LaidOks w0 lo its)) :
    Calls Tryz.prog 184 #[v, .agg #[.int .i64 5, .int .i64 x, .string s, .slice an ln cn, .slice ai its.length ci]] w (KeyPost lo w v (l ++ 64 :: kyL its)) := by
  obtain ⟨i5, hi5, hz0, hz1, hz2⟩ := info_parts Q5
  obtain ⟨ac, hac⟩ : ∃ f : Nat → List UInt8, Hid ((fun i => (its.take i).flatMap (fun t => 2 :: keyT t)) = f) := ⟨_, hid_e rfl⟩
  have h0 : Hid (ac 0 = []) := by rw [Hid, ← hac.out]; simp
  have hfin : Hid (kyL its = ac its.length ++ [1]) := by
    rw [Hid, ← hac.out, kyL_acc]
    show _ = (its.take its.length).flatMap _ ++ [1]
    rw [List.take_of_length_le (by exact Nat.le_refl _)]
  have hmono : Hid (∀ i, (ac i).length ≤ (ac its.length).length) := by
    rw [Hid, ← hac.out]
    intro i
    show (List.flatMap _ (List.take i _)).length ≤ (List.flatMap _ (List.take its.length _)).length
    rw [List.take_of_length_le (l := its) (i := its.length) (by exact Nat.le_refl _)]
    exact flat_mono _ _ _
  have hstep : Hid (∀ i u, its[i]? = some u → ac (i + 1) = ac i ++ (2 :: keyT u)) := by rw [Hid, ← hac.out]; intro i u hu; exact flat_next _ hu
  clear hac
  have hbl : Hid (l.length + 2 * (2 + (ac its.length).length) ≤ 100000000000) := by have h1 := hfin.out; rw [h1, List.length_append] at hb; simp only [List.length_cons, List.length_nil] at hb; rw [Hid]; omega
  rw [hfin.out]
  clear hfin hb
  have hbd : l.length + 1 ≤ maxLen ∧ (l.length + 1) * 1 ≤ 140737488355328 := by have := hbl.out; unfold maxLen; omega
  have hK0 := hid_e ((KeyAt.start hown.out).alloc (.cells #[.int .i64 5, .int .i64 x, .string s, .slice an ln cn, .slice ai its.length ci] 28))
  have n1 := heap_alloc_new w (.cells #[.int .i64 5, .int .i64 x, .string s, .slice an ln cn, .slice ai its.length ci] 28)
  go_enter Tryz.func184, Tryz.ntmps184
  go_upto_region 16 with fail
  generalize w.alloc (.cells #[.int .i64 5, .int .i64 x, .string s, .slice an ln cn, .slice ai its.length ci] 28) = X0 at n1 hK0 ⊢
  go_upto_region 17 with (at_builtin; refine wpList_append_lies _ rfl _ _ 111 rfl lo 5 i5 _ 1 1 Tryz.underlying111 hi5 hz0 hz1 hz2 rfl (by decide) (v) l.length _ rfl (hK0.out.own.alloc _) ⟨X0.heap.size, 0, none⟩ 1 1 [.int .u8 64] rfl rfl (World.news_of_block (heap_alloc_new X0 (.cells #[.int .u8 64] 5))) (fun u hu => by obtain rfl := List.mem_singleton.1 hu; rfl) (by decide) hbd.1 hbd.2 (by rw [World.size_alloc]; have := hK0.out.grown.size; omega) _ rfl ?_; intro ga capa Wa hoa hgra hata hlta)
  have n2 := box_stay (hK0.out.own.alloc _) hgra (box_alloc n1 (.cells #[.int .u8 64] 5))
  obtain ⟨la, hla⟩ : ∃ z, Hid (l ++ [64] = z) := ⟨_, hid_e rfl⟩
  have hna : Hid (l.length + 1 = la.length) := by rw [Hid, ← hla.out, List.length_append]; rfl
  have hKa : Hid (KeyAt lo w v.ownBlock Wa (.slice (some ⟨ga, 0, none⟩) la.length capa) la) := by
    rw [Hid, ← hna.out, ← hla.out]
    exact (hK0.out.alloc (.cells #[.int .u8 64] 5)).app rfl (by simp [Lib.byteCells]) hoa hgra hata
  rw [hna.out]
  clear hoa hgra hata hlta n1 hK0 hbd
  have hKs : Hid (KeyAt lo w v.ownBlock Wa (.slice (some ⟨ga, 0, none⟩) la.length capa) (la ++ ac 0)) := by rw [h0.out, List.append_nil]; exact hKa
  obtain ⟨kv0, hkv0⟩ : ∃ z, Hid (Value.slice (some ⟨ga, 0, none⟩) la.length capa = z) := ⟨_, hid_e rfl⟩
  rw [hkv0.out] at hKs
  rw [hkv0.out]
  clear hkv0 hKa
  obtain ⟨-, -, -, y3, y4, -⟩ := row_cells n2
  go_wp2_with fail
  clear y3 y4
  go_loopw [0, 64] (fun kv iv wr => ∃ i : Nat, i ≤ its.length ∧ iv = .int .i64 i ∧ wr.heap[w.heap.size]? = some (.cells #[.int .i64 5, .int .i64 x, .string s, .slice an ln cn, .slice ai its.length ci] 28 (0, 0)) ∧ Hid (KeyAt lo w v.ownBlock wr kv (la ++ ac i))) (fun _ iv _ => its.length - (intOf iv).toNat)
  case atStart => exact ⟨0, Nat.zero_le _, rfl, n2, hKs⟩
  case round =>
    clear n2 hKs
    obtain ⟨i, hi, rfl, hx, hK⟩ := hrel
    obtain ⟨li, hli⟩ : ∃ z, Hid (la ++ ac i = z) := ⟨_, hid_e rfl⟩
    rw [hli.out] at hK
    have hlli : Hid (li.length = l.length + 1 + (ac i).length) := by rw [Hid, ← hli.out, List.length_append, ← hna.out]
    have hbd : li.length + 1 ≤ maxLen ∧ (li.length + 1) * 1 ≤ 140737488355328 := by have h1 := hlli.out; have h2 := hbl.out; have h3 := hmono.out i; unfold maxLen; omega
    have hBr := hid_e (hK.out.below hB hl0 hown.out)
    by_cases hlt : i < its.length
    · have i1 : (i : Int) < (its.length : Int) := by omega
      obtain ⟨u, hu⟩ : ∃ u, Hid (its[i]? = some u) := ⟨_, hid_e (List.getElem?_eq_getElem hlt)⟩
      obtain ⟨b, o, rfl, hb, hV⟩ := hL.out.resolve_left (by intro e; subst e; simp at hlt)
      obtain ⟨cs, hia, hr⟩ := VRepL.at its o i u hV hu.out
      obtain ⟨k2, x2, s2, an2, ln2, cn2, ai2, li2, ci2, rfl⟩ := vrep_five hr
      have hcall := hid_e (fun W v' l' h1 h2 h3 h4 => hI.out i u hu.out _ W v' l' hr h1 h2 h3 h4)
      replace hia := hid_e hia
      have hst := hid_e (hstep.out i u hu.out)
      have hmx : Hid ((ac (i + 1)).length ≤ (ac its.length).length) := hmono.out (i + 1)
      clear hV hr
      have z0 := stay hBr.out (hia.out 0 _ rfl)
      have z1 := stay hBr.out (hia.out 1 _ rfl)
      have z2 := stay hBr.out (hia.out 2 _ rfl)
      have z3 := stay hBr.out (hia.out 3 _ rfl)
      have z4 := stay hBr.out (hia.out 4 _ rfl)
      simp only [Nat.add_zero] at z0
      go_upto_region 20 with fail
      clear z0 z1 z2 z3 z4
      have n1 := heap_alloc_new wr (.cells #[.int .i64 k2, .int .i64 x2, .string s2, .slice an2 ln2 cn2, .slice ai2 li2 ci2] 28)
      have hxa := box_alloc hx (.cells #[.int .i64 k2, .int .i64 x2, .string s2, .slice an2 ln2 cn2, .slice ai2 li2 ci2] 28)
      have hK0 := hid_e (hK.out.alloc (.cells #[.int .i64 k2, .int .i64 x2, .string s2, .slice an2 ln2 cn2, .slice ai2 li2 ci2] 28))
      generalize wr.alloc (.cells #[.int .i64 k2, .int .i64 x2, .string s2, .slice an2 ln2 cn2, .slice ai2 li2 ci2] 28) = X0 at n1 hxa hK0 ⊢
      replace hxa : X0.drew.heap[w.heap.size]? = some (.cells #[.int .i64 5, .int .i64 x, .string s, .slice an ln cn, .slice (some ⟨b, o, none⟩) its.length ci] 28 (0, 0)) := hxa
      replace n1 : X0.drew.heap[wr.heap.size]? = some (.cells #[.int .i64 k2, .int .i64 x2, .string s2, .slice an2 ln2 cn2, .slice ai2 li2 ci2] 28 (0, 0)) := n1
      replace hK0 := hid_e hK0.out.drew
      generalize hX : X0.drew = X at n1 hxa hK0
      refine wp_region_noPanic ?_
      refine Until.wp_region_U (fun w' => w'.heap[wr.heap.size]? = some (.cells #[.int .i64 k2, .int .i64 x2, .string s2, .slice an2 ln2 cn2, .slice ai2 li2 ci2] 28 (0, 0))) (fun _ => True) 5 (by kernel_rfl) ?_
      rw [hX]
      clear hX
      refine Until.wpU_pure (i := 0) (oi := { dst := some 68, op := Op.move (Operand.tmp 0), type := 111, pos := "key.go:57", after := #[], guard := none }) (v := u0) rfl (by kernel_rfl) (by kernel_rfl) (by kernel_rfl) (by kernel_rfl) (by kernel_rfl) (fun _ _ _ h => h) (n1) (fun _ => trivial) (by rfl) (by intro w'; go_simp) ?_
      try simp only [Act.put, List.setIfInBounds_toArray, List.set_cons_zero, List.set_cons_succ]
      refine Until.wpU_load0 (i := 3) (oi := { dst := some 71, op := Op.load 28 (Operand.tmp 8), type := 28, pos := "key.go:57", after := #[], guard := none }) (v := .agg #[.int .i64 k2, .int .i64 x2, .string s2, .slice an2 ln2 cn2, .slice ai2 li2 ci2]) rfl (by kernel_rfl) (by kernel_rfl) (by kernel_rfl) (by kernel_rfl) (by kernel_rfl) (fun _ _ _ h => h) (n1) (fun _ => trivial) (by rfl) (by intro w' hw'; obtain ⟨t0, t1, t2, t3, t4, -⟩ := row_cells hw'; go_simp) ?_
      try simp only [Act.put, List.setIfInBounds_toArray, List.set_cons_zero, List.set_cons_succ]
      refine Until.wpU_ready (rs := [1]) (by kernel_rfl) (by simp) ?_
      refine (Until.AllU.cons (o := { dst := some 69, op := Op.buildSlice 111 1 #[(0, Operand.const (Value.int IntKind.u8 2))], type := 111, pos := "key.go:57", after := #[], guard := none }) rfl (fun K hK => ?_) Until.AllU.nil)
      go_simp
      have n2 := box_alloc n1 (.cells #[.int .u8 2] 5)
      refine hK.out _ _ (n2) (fun _ => trivial) ?_
      clear hK K
      try simp only [Act.put, List.setIfInBounds_toArray, List.set_cons_zero, List.set_cons_succ]
      refine Until.wpU_ready (rs := [2]) (by kernel_rfl) (by simp) ?_
      refine (Until.AllU.cons (o := { dst := some 70, op := Op.call { callee := Callee.builtin Builtin.append, args := #[Operand.tmp 68, Operand.tmp 69], argTypes := #[111, 111] }, type := 111, pos := "key.go:57", after := #[{ on := 0, ground := Ground.data }, { on := 1, ground := Ground.data }], guard := none }) rfl (fun K hK => ?_) Until.AllU.nil)
      refine step_append_lies _ (by rfl) _ _ 111 (by rfl) lo 5 i5 _ 1 1 Tryz.underlying111 hi5 hz0 hz1 hz2 (by rfl) (by decide) (u0) li.length _ (by rfl) (hK0.out.own.alloc _) ⟨X.heap.size, 0, none⟩ 1 1 [.int .u8 2] (by rfl) (by rfl) (World.news_of_block (heap_alloc_new X (.cells #[.int .u8 2] 5))) (fun u hu => by obtain rfl := List.mem_singleton.1 hu; rfl) (by decide) hbd.1 hbd.2 (by rw [World.size_alloc]; have := hK0.out.grown.size; omega) _ rfl ?_
      intro gc capc Wc hoc hgrc hatc hltc
      have n3 := box_stay (hK0.out.own.alloc _) hgrc n2
      have hxc := box_stay (hK0.out.own.alloc _) hgrc (box_alloc hxa _)
      obtain ⟨lc, hlc⟩ : ∃ z, Hid (li ++ [2] = z) := ⟨_, hid_e rfl⟩
      have hnc : Hid (li.length + 1 = lc.length) := by rw [Hid, ← hlc.out, List.length_append]; rfl
      have hKc : Hid (KeyAt lo w v.ownBlock Wc (.slice (some ⟨gc, 0, none⟩) lc.length capc) lc) := by
        rw [Hid, ← hnc.out, ← hlc.out]
        exact (hK0.out.alloc (.cells #[.int .u8 2] 5)).app rfl (by simp [Lib.byteCells]) hoc hgrc hatc
      rw [hnc.out]
      clear hoc hgrc hatc hltc n1 n2 hxa
      refine hK.out _ _ (n3) (fun _ => trivial) ?_
      clear hK K
      try simp only [Act.put, List.setIfInBounds_toArray, List.set_cons_zero, List.set_cons_succ]
      refine Until.wpU_ready (rs := [4]) (by kernel_rfl) (by simp) ?_
      refine (Until.AllU.cons (o := { dst := some 72, op := Op.call { callee := Callee.value (Operand.func 184), args := #[Operand.tmp 70, Operand.tmp 71], argTypes := #[111, 28] }, type := 111, pos := "key.go:57", after := #[{ on := 2, ground := Ground.data }, { on := 3, ground := Ground.data }, { on := 2, ground := Ground.chain }], guard := none }) rfl (fun K hK => ?_) Until.AllU.nil)
      go_simp
      refine (hcall.out Wc (.slice (some ⟨gc, 0, none⟩) lc.length capc) lc (hKc.out.below hB hl0 hown.out) (Nat.le_trans hlo hKc.out.grown.size) hKc.out.own (by have h1 := hst.out; have h2 := hmx.out; have h3 := hnc.out; have h4 := hlli.out; have h5 := hbl.out; rw [h1, List.length_append, List.length_cons] at h2; omega)).mono ?_
      rintro e Wd ⟨kv, rfl, hKd⟩
      have n4 := box_stay hKc.out.own hKd.grown n3
      have hxd := box_stay hKc.out.own hKd.grown hxc
      have hKe : Hid (KeyAt lo w v.ownBlock Wd kv (la ++ ac (i + 1))) := by
        have e : la ++ ac (i + 1) = lc ++ keyT u := by rw [hst.out, ← hlc.out, ← hli.out]; simp
        rw [Hid, e]
        exact hKc.out.call hKd
      refine hK.out _ _ (n4) (fun _ => trivial) ?_
      clear hK K
      try simp only [Act.put, List.setIfInBounds_toArray, List.set_cons_zero, List.set_cons_succ]
      refine Until.wpU_ready (rs := [5]) (by kernel_rfl) (by simp) ?_
      refine (Until.AllU.cons (o := { dst := some 0, op := Op.assign (Operand.tmp 72), type := 111, pos := "key.go:57", after := #[{ on := 4, ground := Ground.data }, { on := 4, ground := Ground.chain }, { on := 0, ground := Ground.phase }, { on := 1, ground := Ground.phase }, { on := 2, ground := Ground.phase }, { on := 3, ground := Ground.phase }, { on := 4, ground := Ground.phase }], guard := none }) rfl (fun K hK => ?_) Until.AllU.nil)
      go_simp
      refine hK.out _ _ (n4) (fun _ => trivial) ?_
      clear hK K
      try simp only [Act.put, List.setIfInBounds_toArray, List.set_cons_zero, List.set_cons_succ]
      refine Until.wpU_done (by kernel_rfl) ?_ _
      refine NoPanic.normal ?_
      clear hKd n3 n4 hxc hKc
      go_wp2_with fail
      go_roundw
      case rel => exact ⟨i + 1, by omega, by go_num, hxd, hKe⟩
      case measure => simp [intOf]; omega
    · obtain rfl : i = its.length := by omega
      go_upto_region 22 with fail
      go_wp2_with (at_builtin; refine wpList_append_lies _ rfl _ _ 111 rfl lo 5 i5 _ 1 1 Tryz.underlying111 hi5 hz0 hz1 hz2 rfl (by decide) (u0) li.length _ rfl (hK.out.own.alloc _) ⟨wr.heap.size, 0, none⟩ 1 1 [.int .u8 1] rfl rfl (World.news_of_block (heap_alloc_new wr (.cells #[.int .u8 1] 5))) (fun u hu => by obtain rfl := List.mem_singleton.1 hu; rfl) (by decide) hbd.1 hbd.2 (by rw [World.size_alloc]; have := hK.out.grown.size; omega) _ rfl ?_; intro ge cape We hoe hgre hate hlte)
      obtain ⟨le, hle⟩ : ∃ z, Hid (li ++ [1] = z) := ⟨_, hid_e rfl⟩
      have hne : Hid (li.length + 1 = le.length) := by rw [Hid, ← hle.out, List.length_append]; rfl
      have hKe : Hid (KeyAt lo w v.ownBlock We (.slice (some ⟨ge, 0, none⟩) le.length cape) le) := by
        rw [Hid, ← hne.out, ← hle.out]
        exact (hK.out.alloc (.cells #[.int .u8 1] 5)).app rfl (by simp [Lib.byteCells]) hoe hgre hate
      rw [hne.out]
      have hKz : Hid (KeyAt lo w v.ownBlock We (.slice (some ⟨ge, 0, none⟩) le.length cape) (l ++ 64 :: (ac its.length ++ [1]))) := by
        have e : l ++ 64 :: (ac its.length ++ [1]) = le := by rw [← hle.out, ← hli.out, ← hla.out]; simp
        rw [Hid, e]
        exact hKe.out
      clear hoe hgre hate hlte
      go_wp2_with fail
      go_ret
      exact ⟨_, rfl, hKz.out⟩
set_option maxHeartbeats 8000000 in
set_option maxRecDepth 100000 in
theorem laid_6 (x : Int) (s : ByteArray) (an : Option Addr) (cn : Nat) (ns : List ByteArray) (ai : Option Addr) (ci : Nat) (its : List Tr) (v : Value) (l : List UInt8) (lo : Nat) (w0 w : World) (hB : Below w0.heap.size w0 w) (hl0 : w0.heap.size ≤ lo) (hlo : lo ≤ w.heap.size) (hown : Hid (w.ownsRow lo 5 1 v l.length (Lib.byteCells l))) (hml : its.length ≤ 9223372036854775807) (hb : l.length + 2 * (1 + (kyM ns its).length) ≤ 100000000000) (hnm : Hid (ns.length = its.length)) (hR : Hid (Reads w0 (.slice an its.length cn) ns)) (hL : Hid (ItemsAt' w0 ai its)) (hI : Hid (LaidOks w0 lo its)) :
    Calls Tryz.prog 184 #[v, .agg #[.int .i64 6, .int .i64 x, .string s, .slice an its.length cn, .slice ai its.length ci]] w (KeyPost lo w v (l ++ 48 :: kyM ns its)) := by
  obtain ⟨i5, hi5, hz0, hz1, hz2⟩ := info_parts Q5
  obtain ⟨ac, hac⟩ : ∃ f : Nat → List UInt8, Hid ((fun i => ((ns.zip its).take i).flatMap (fun p => 2 :: (keyS p.1.data.toList ++ keyT p.2))) = f) := ⟨_, hid_e rfl⟩
  have h0 : Hid (ac 0 = []) := by rw [Hid, ← hac.out]; simp
  have hfin : Hid (kyM ns its = ac its.length ++ [1]) := by
    rw [Hid, ← hac.out, kyM_acc _ _ hnm.out]
    show _ = ((ns.zip its).take its.length).flatMap _ ++ [1]
    rw [List.take_of_length_le (by rw [List.length_zip]; omega)]
  have hmono : Hid (∀ i, (ac i).length ≤ (ac its.length).length) := by
    rw [Hid, ← hac.out]
    intro i
    show (List.flatMap _ (List.take i _)).length ≤ (List.flatMap _ (List.take its.length _)).length
    rw [List.take_of_length_le (l := (ns.zip its)) (i := its.length) (by rw [List.length_zip]; omega)]
    exact flat_mono _ _ _
  have hstep : Hid (∀ i u nm, its[i]? = some u → ns[i]? = some nm → ac (i + 1) = ac i ++ (2 :: (keyS nm.data.toList ++ keyT u))) := by
    rw [Hid, ← hac.out]
    intro i u nm hu hn
    exact flat_next (fun p : ByteArray × Tr => 2 :: (keyS p.1.data.toList ++ keyT p.2)) (u := (nm, u)) (by rw [List.getElem?_zip_eq_some]; exact ⟨hn, hu⟩)
  clear hac
  have hbl : Hid (l.length + 2 * (2 + (ac its.length).length) ≤ 100000000000) := by have h1 := hfin.out; rw [h1, List.length_append] at hb; simp only [List.length_cons, List.length_nil] at hb; rw [Hid]; omega
  rw [hfin.out]
  clear hfin hb
  have hbd : l.length + 1 ≤ maxLen ∧ (l.length + 1) * 1 ≤ 140737488355328 := by have := hbl.out; unfold maxLen; omega
  have hK0 := hid_e ((KeyAt.start hown.out).alloc (.cells #[.int .i64 6, .int .i64 x, .string s, .slice an its.length cn, .slice ai its.length ci] 28))
  have n1 := heap_alloc_new w (.cells #[.int .i64 6, .int .i64 x, .string s, .slice an its.length cn, .slice ai its.length ci] 28)
  go_enter Tryz.func184, Tryz.ntmps184
  go_upto_region 7 with fail
  generalize w.alloc (.cells #[.int .i64 6, .int .i64 x, .string s, .slice an its.length cn, .slice ai its.length ci] 28) = X0 at n1 hK0 ⊢
  go_upto_region 8 with (at_builtin; refine wpList_append_lies _ rfl _ _ 111 rfl lo 5 i5 _ 1 1 Tryz.underlying111 hi5 hz0 hz1 hz2 rfl (by decide) (v) l.length _ rfl (hK0.out.own.alloc _) ⟨X0.heap.size, 0, none⟩ 1 1 [.int .u8 48] rfl rfl (World.news_of_block (heap_alloc_new X0 (.cells #[.int .u8 48] 5))) (fun u hu => by obtain rfl := List.mem_singleton.1 hu; rfl) (by decide) hbd.1 hbd.2 (by rw [World.size_alloc]; have := hK0.out.grown.size; omega) _ rfl ?_; intro ga capa Wa hoa hgra hata hlta)
  have n2 := box_stay (hK0.out.own.alloc _) hgra (box_alloc n1 (.cells #[.int .u8 48] 5))
  obtain ⟨la, hla⟩ : ∃ z, Hid (l ++ [48] = z) := ⟨_, hid_e rfl⟩
  have hna : Hid (l.length + 1 = la.length) := by rw [Hid, ← hla.out, List.length_append]; rfl
  have hKa : Hid (KeyAt lo w v.ownBlock Wa (.slice (some ⟨ga, 0, none⟩) la.length capa) la) := by
    rw [Hid, ← hna.out, ← hla.out]
    exact (hK0.out.alloc (.cells #[.int .u8 48] 5)).app rfl (by simp [Lib.byteCells]) hoa hgra hata
  rw [hna.out]
  clear hoa hgra hata hlta n1 hK0 hbd
  have hKs : Hid (KeyAt lo w v.ownBlock Wa (.slice (some ⟨ga, 0, none⟩) la.length capa) (la ++ ac 0)) := by rw [h0.out, List.append_nil]; exact hKa
  obtain ⟨kv0, hkv0⟩ : ∃ z, Hid (Value.slice (some ⟨ga, 0, none⟩) la.length capa = z) := ⟨_, hid_e rfl⟩
  rw [hkv0.out] at hKs
  rw [hkv0.out]
  clear hkv0 hKa
  obtain ⟨-, -, -, y3, y4, -⟩ := row_cells n2
  go_wp2_with fail
  clear y3 y4
  go_loopw [0, 35] (fun kv iv wr => ∃ i : Nat, i ≤ its.length ∧ iv = .int .i64 i ∧ wr.heap[w.heap.size]? = some (.cells #[.int .i64 6, .int .i64 x, .string s, .slice an its.length cn, .slice ai its.length ci] 28 (0, 0)) ∧ Hid (KeyAt lo w v.ownBlock wr kv (la ++ ac i))) (fun _ iv _ => its.length - (intOf iv).toNat)
  case atStart => exact ⟨0, Nat.zero_le _, rfl, n2, hKs⟩
  case round =>
    clear n2 hKs
    obtain ⟨i, hi, rfl, hx, hK⟩ := hrel
    obtain ⟨li, hli⟩ : ∃ z, Hid (la ++ ac i = z) := ⟨_, hid_e rfl⟩
    rw [hli.out] at hK
    have hlli : Hid (li.length = l.length + 1 + (ac i).length) := by rw [Hid, ← hli.out, List.length_append, ← hna.out]
    have hbd : li.length + 1 ≤ maxLen ∧ (li.length + 1) * 1 ≤ 140737488355328 := by have h1 := hlli.out; have h2 := hbl.out; have h3 := hmono.out i; unfold maxLen; omega
    have hBr := hid_e (hK.out.below hB hl0 hown.out)
    by_cases hlt : i < its.length
    · have i1 : (i : Int) < (its.length : Int) := by omega
      obtain ⟨u, hu⟩ : ∃ u, Hid (its[i]? = some u) := ⟨_, hid_e (List.getElem?_eq_getElem hlt)⟩
      obtain ⟨b, o, rfl, hb, hV⟩ := hL.out.resolve_left (by intro e; subst e; simp at hlt)
      obtain ⟨cs, hia, hr⟩ := VRepL.at its o i u hV hu.out
      obtain ⟨k2, x2, s2, an2, ln2, cn2, ai2, li2, ci2, rfl⟩ := vrep_five hr
      have hcall := hid_e (fun W v' l' h1 h2 h3 h4 => hI.out i u hu.out _ W v' l' hr h1 h2 h3 h4)
      replace hia := hid_e hia
      obtain ⟨nm, hnme⟩ : ∃ z, Hid (ns[i]? = some z) := ⟨_, hid_e (List.getElem?_eq_getElem (by rw [hnm.out]; exact hlt))⟩
      obtain ⟨gn, on, rfl, cc⟩ := names_at hR.out hnme.out
      replace cc := hid_e cc
      have hst := hid_e (hstep.out i u nm hu.out hnme.out)
      have hmx : Hid ((ac (i + 1)).length ≤ (ac its.length).length) := hmono.out (i + 1)
      clear hV hr
      have c1 := stay hBr.out cc.out
      go_upto_region 11 with fail
      clear c1
      go_wp2_with (at_builtin; refine wpList_append_lies _ rfl _ _ 111 rfl lo 5 i5 _ 1 1 Tryz.underlying111 hi5 hz0 hz1 hz2 rfl (by decide) (u0) li.length _ rfl (hK.out.own.alloc _) ⟨wr.heap.size, 0, none⟩ 1 1 [.int .u8 2] rfl rfl (World.news_of_block (heap_alloc_new wr (.cells #[.int .u8 2] 5))) (fun u hu => by obtain rfl := List.mem_singleton.1 hu; rfl) (by decide) hbd.1 hbd.2 (by rw [World.size_alloc]; have := hK.out.grown.size; omega) _ rfl ?_; intro gc capc Wc hoc hgrc hatc hltc)
      have hxc := box_stay (hK.out.own.alloc _) hgrc (box_alloc hx _)
      obtain ⟨lc, hlc⟩ : ∃ z, Hid (li ++ [2] = z) := ⟨_, hid_e rfl⟩
      have hnc : Hid (li.length + 1 = lc.length) := by rw [Hid, ← hlc.out, List.length_append]; rfl
      have hKc : Hid (KeyAt lo w v.ownBlock Wc (.slice (some ⟨gc, 0, none⟩) lc.length capc) lc) := by
        rw [Hid, ← hnc.out, ← hlc.out]
        exact (hK.out.alloc (.cells #[.int .u8 2] 5)).app rfl (by simp [Lib.byteCells]) hoc hgrc hatc
      rw [hnc.out]
      clear hoc hgrc hatc hltc
      go_wp2_with fail
      go_fit (text_code (.slice (some ⟨gc, 0, none⟩) lc.length capc) lc nm lo Wc (Nat.le_trans hlo hKc.out.grown.size) (hid_e hKc.out.own) (by have h1 := hst.out; have h2 := hmx.out; have h3 := hnc.out; have h4 := hlli.out; have h5 := hbl.out; have h6 := keyS_len nm.data.toList; rw [Array.length_toList] at h6; have h7 : nm.data.size = nm.size := rfl; rw [h1, List.length_append, List.length_cons, List.length_append] at h2; omega))
      rintro e Wd ⟨kv, rfl, hKd⟩
      have hxd := box_stay hKc.out.own hKd.grown hxc
      obtain ⟨ld, hld⟩ : ∃ z, Hid (lc ++ keyS nm.data.toList = z) := ⟨_, hid_e rfl⟩
      have hnd : Hid (ld.length = lc.length + (keyS nm.data.toList).length) := by rw [Hid, ← hld.out, List.length_append]
      have hKe : Hid (KeyAt lo w v.ownBlock Wd kv ld) := by rw [Hid, ← hld.out]; exact hKc.out.call hKd
      clear hKd hxc hKc
      have hBd := hid_e (hKe.out.below hB hl0 hown.out)
      obtain ⟨-, -, -, -, y4, -⟩ := row_cells hxd
      have z0 := stay hBd.out (hia.out 0 _ rfl)
      have z1 := stay hBd.out (hia.out 1 _ rfl)
      have z2 := stay hBd.out (hia.out 2 _ rfl)
      have z3 := stay hBd.out (hia.out 3 _ rfl)
      have z4 := stay hBd.out (hia.out 4 _ rfl)
      simp only [Nat.add_zero] at z0
      go_wp2_with fail
      go_fit (hcall.out Wd kv ld hBd.out (Nat.le_trans hlo hKe.out.grown.size) hKe.out.own (by have h1 := hst.out; have h2 := hmx.out; have h3 := hnc.out; have h4 := hlli.out; have h5 := hbl.out; have h6 := hnd.out; rw [h1, List.length_append, List.length_cons, List.length_append] at h2; omega))
      clear z0 z1 z2 z3 z4 y4
      rintro e Wf ⟨kw, rfl, hKf⟩
      have hxf := box_stay hKe.out.own hKf.grown hxd
      have hKg : Hid (KeyAt lo w v.ownBlock Wf kw (la ++ ac (i + 1))) := by
        have e : la ++ ac (i + 1) = ld ++ keyT u := by rw [hst.out, ← hld.out, ← hlc.out, ← hli.out]; simp
        rw [Hid, e]
        exact hKe.out.call hKf
      clear hKf hKe hxd
      go_wp2_with fail
      go_roundw
      case rel => exact ⟨i + 1, by omega, by go_num, hxf, hKg⟩
      case measure => simp [intOf]; omega
    · obtain rfl : i = its.length := by omega
      go_upto_region 14 with fail
      go_wp2_with (at_builtin; refine wpList_append_lies _ rfl _ _ 111 rfl lo 5 i5 _ 1 1 Tryz.underlying111 hi5 hz0 hz1 hz2 rfl (by decide) (u0) li.length _ rfl (hK.out.own.alloc _) ⟨wr.heap.size, 0, none⟩ 1 1 [.int .u8 1] rfl rfl (World.news_of_block (heap_alloc_new wr (.cells #[.int .u8 1] 5))) (fun u hu => by obtain rfl := List.mem_singleton.1 hu; rfl) (by decide) hbd.1 hbd.2 (by rw [World.size_alloc]; have := hK.out.grown.size; omega) _ rfl ?_; intro ge cape We hoe hgre hate hlte)
      obtain ⟨le, hle⟩ : ∃ z, Hid (li ++ [1] = z) := ⟨_, hid_e rfl⟩
      have hne : Hid (li.length + 1 = le.length) := by rw [Hid, ← hle.out, List.length_append]; rfl
      have hKe : Hid (KeyAt lo w v.ownBlock We (.slice (some ⟨ge, 0, none⟩) le.length cape) le) := by
        rw [Hid, ← hne.out, ← hle.out]
        exact (hK.out.alloc (.cells #[.int .u8 1] 5)).app rfl (by simp [Lib.byteCells]) hoe hgre hate
      rw [hne.out]
      have hKz : Hid (KeyAt lo w v.ownBlock We (.slice (some ⟨ge, 0, none⟩) le.length cape) (l ++ 48 :: (ac its.length ++ [1]))) := by
        have e : l ++ 48 :: (ac its.length ++ [1]) = le := by rw [← hle.out, ← hli.out, ← hla.out]; simp
        rw [Hid, e]
        exact hKe.out
      clear hoe hgre hate hlte
      go_wp2_with fail
      go_ret
      exact ⟨_, rfl, hKz.out⟩
end Go.Proofs.YthgnkhpomhcdkaaGreatDoor
/-! The bytes of every value: order.Bytes. -/
namespace Go.Proofs.YthgnkhpomhcdkaaGreatDoor
open Go Go.RowKit

theorem items_zero {d : Nat} : (its : List Tr) → itemsT d its = 0 → ∀ u ∈ its, checkT d u = 0
  | [], _, u, hu => by cases hu
  | t :: ts, h, u, hu => by
    rw [itemsT] at h
    split at h
    · rename_i h1
      rcases List.mem_cons.1 hu with rfl | hu
      · exact h1
      · exact items_zero ts h u hu
    · rename_i h1; exact absurd h h1
theorem members_zero {d : Nat} : (ns : List ByteArray) → (its : List Tr) → (had : List ByteArray) → membersT d had ns its = 0 → ns.length = its.length →
    (∀ n ∈ ns, Lib.validD n.data.toList = true) ∧ (∀ u ∈ its, checkT d u = 0) ∧ (∀ i, i < ns.length → hasName (had ++ ns.take i) (nth ns i) = false)
  | [], [], _, _, _ => ⟨fun _ h => by simp at h, fun _ h => by simp at h, fun i h => by simp at h⟩
  | [], _ :: _, _, _, h => by simp at h
  | _ :: _, [], _, _, h => by simp at h
  | n :: ns, t :: ts, had, h, hl => by
    rw [membersT] at h
    split at h
    · simp at h
    split at h
    · simp at h
    split at h
    · rename_i h1 h2 h3
      obtain ⟨e1, e2, e3⟩ := members_zero ns ts (had ++ [n]) h (by simpa using hl)
      refine ⟨fun m hm => ?_, fun u hu => ?_, fun i hi => ?_⟩
      · rcases List.mem_cons.1 hm with rfl | hm
        · simpa using h1
        · exact e1 m hm
      · rcases List.mem_cons.1 hu with rfl | hu
        · exact h3
        · exact e2 u hu
      · cases i with
        | zero => simpa [nth] using h2
        | succ i =>
          have := e3 i (by simpa using hi)
          simpa [nth] using this
    · rename_i h3; exact absurd h h3
theorem check_zero {d : Nat} {k x : Int} {s : ByteArray} {ns : List ByteArray} {its : List Tr} (h : checkT d (.node k x s ns its) = 0) :
    aloneT d k x s ns.length its.length = 0 ∧ (k = 6 → membersT (d + 1) [] ns its = 0) ∧ (k ≠ 6 → itemsT (d + 1) its = 0) := by
  rw [checkT] at h
  split at h
  · rename_i h0
    refine ⟨h0, fun e => ?_, fun e => ?_⟩
    · rwa [if_pos e] at h
    · rwa [if_neg e] at h
  · rename_i h0; exact absurd h h0
/-- What Check's OK says of the parts. -/
theorem check_items {d : Nat} {k x : Int} {s : ByteArray} {ns : List ByteArray} {its : List Tr} (h : checkT d (.node k x s ns its) = 0) : (∀ u ∈ its, checkT (d + 1) u = 0) ∧ (∀ n ∈ ns, Lib.validD n.data.toList = true) := by
  obtain ⟨h1, h2, h3⟩ := check_zero h
  obtain ⟨a1, a2, a3, a4, a5, a6⟩ := aloneT_ok h1
  by_cases e : k = 6
  · obtain ⟨b1, b2, -⟩ := members_zero ns its [] (h2 e) (a6 e)
    exact ⟨b2, b1⟩
  · refine ⟨items_zero its (h3 e), fun n hn => ?_⟩
    unfold keepsB at a4
    simp only [Bool.and_eq_true, Bool.or_eq_true, beq_iff_eq] at a4
    rcases a4.1.2 with h4 | h4
    · have : ns = [] := List.eq_nil_of_length_eq_zero (by omega)
      subst this; cases hn
    · exact absurd h4 e

mutual
/-- The numbers are of 64 bits. -/
def RangeT : Tr → Prop
  | .node _ x _ _ its => (-9223372036854775808 ≤ x ∧ x ≤ 9223372036854775807) ∧ RangeL its
def RangeL : List Tr → Prop
  | [] => True
  | t :: ts => RangeT t ∧ RangeL ts
end
theorem RangeL.at : {its : List Tr} → {i : Nat} → {u : Tr} → RangeL its → its[i]? = some u → RangeT u
  | [], i, u, _, h => by simp at h
  | t :: ts, 0, u, hr, h => by
    unfold RangeL at hr
    obtain rfl : t = u := by simpa using h
    exact hr.1
  | t :: ts, i + 1, u, hr, h => by
    unfold RangeL at hr
    exact RangeL.at hr.2 (by simpa using h)


theorem seven {k : Int} (h0 : 0 ≤ k) (h6 : k ≤ 6) : k = 0 ∨ k = 1 ∨ k = 2 ∨ k = 3 ∨ k = 4 ∨ k = 5 ∨ k = 6 := by omega
theorem goodL_of : (its : List Tr) → (∀ u ∈ its, GoodK u) → GoodKL its
  | [], _ => by unfold GoodKL; trivial
  | t :: ts, h => by unfold GoodKL; exact ⟨h t (.head _), goodL_of ts (fun u hu => h u (.tail _ hu))⟩
theorem goodL_at : {its : List Tr} → {i : Nat} → {u : Tr} → GoodKL its → its[i]? = some u → GoodK u
  | [], i, u, _, h => by simp at h
  | t :: ts, 0, u, hr, h => by
    unfold GoodKL at hr
    obtain rfl : t = u := by simpa using h
    exact hr.1
  | t :: ts, i + 1, u, hr, h => by
    unfold GoodKL at hr
    exact goodL_at hr.2 (by simpa using h)
theorem good_of (t : Tr) (d : Nat) (h : checkT d t = 0) (hR : RangeT t) : GoodK t := by
  match t, h, hR with
  | .node k x s ns its, h, hR =>
    unfold RangeT at hR
    obtain ⟨hci, -⟩ := check_items h
    obtain ⟨ha1, ha2, ha3, ha4, ha5, ha6⟩ := aloneT_ok (check_zero h).1
    unfold GoodK
    refine ⟨⟨ha2, ha3⟩, hR.1, ha6, goodL_of its (fun u hu => ?_)⟩
    obtain ⟨i, hi⟩ := List.getElem?_of_mem hu
    have hlt : SizeOf.sizeOf u < SizeOf.sizeOf its := tr_lt hi
    exact good_of u (d + 1) (hci u hu) (RangeL.at hR.2 hi)
termination_by SizeOf.sizeOf t
decreasing_by simp only [Tr.node.sizeOf_spec]; omega
theorem keyT0 {x : Int} {s : ByteArray} {ns : List ByteArray} {its : List Tr} : keyT (.node 0 x s ns its) = [5] := by rw [keyT]; rfl
theorem keyT1 {x : Int} {s : ByteArray} {ns : List ByteArray} {its : List Tr} : keyT (.node 1 x s ns its) = [80] := by rw [keyT]; rfl
theorem keyT2 {x : Int} {s : ByteArray} {ns : List ByteArray} {its : List Tr} : keyT (.node 2 x s ns its) = [81] := by rw [keyT]; rfl
theorem keyT3 {x : Int} {s : ByteArray} {ns : List ByteArray} {its : List Tr} : keyT (.node 3 x s ns its) = 16 :: keyN x := by rw [keyT]; rfl
theorem keyT4 {x : Int} {s : ByteArray} {ns : List ByteArray} {its : List Tr} : keyT (.node 4 x s ns its) = 32 :: keyS s.data.toList := by rw [keyT]; rfl
theorem keyT5 {x : Int} {s : ByteArray} {ns : List ByteArray} {its : List Tr} : keyT (.node 5 x s ns its) = 64 :: kyL its := by rw [keyT]; rfl
theorem keyT6 {x : Int} {s : ByteArray} {ns : List ByteArray} {its : List Tr} : keyT (.node 6 x s ns its) = 48 :: kyM ns its := by rw [keyT]; rfl
set_option maxHeartbeats 1000000 in
theorem laid_any (t : Tr) (hG : GoodK t) (w0 : World) (lo : Nat) (hl0 : w0.heap.size ≤ lo) (cs : List Value) (W : World) (v : Value) (l : List UInt8) (hV : VRep w0 t cs) (hB : Below w0.heap.size w0 W) (hlo : lo ≤ W.heap.size) (hown : W.ownsRow lo 5 1 v l.length (Lib.byteCells l)) (hb : l.length + 2 * (keyT t).length ≤ 100000000000) :
    Calls Tryz.prog 184 #[v, .agg cs.toArray] W (KeyPost lo W v (l ++ keyT t)) := by
  match t, hG, hV, hb with
  | .node k x s ns its, hG, hV, hb =>
    unfold VRep at hV
    obtain ⟨nm, a, c, rfl, hn, hc, hI⟩ := hV
    obtain ⟨an, cn, rfl, -, -⟩ := id hn
    unfold GoodK at hG
    obtain ⟨⟨h0, h6⟩, hx, hnl, hg⟩ := hG
    have hoks : LaidOks w0 lo its := fun i u hu cs' W' v' l' e1 e2 e3 e4 e5 => by
      have hlt : SizeOf.sizeOf u < SizeOf.sizeOf its := tr_lt hu
      exact laid_any u (goodL_at hg hu) w0 lo hl0 cs' W' v' l' e1 e2 e3 e4 e5
    rcases seven h0 h6 with rfl | rfl | rfl | rfl | rfl | rfl | rfl
    · rw [keyT0] at hb ⊢
      exact laid_0 x s an ns.length cn a its.length c v l lo W hlo (hid_e hown) (by simp only [List.length_cons, List.length_nil] at hb; omega)
    · rw [keyT1] at hb ⊢
      exact laid_1 x s an ns.length cn a its.length c v l lo W hlo (hid_e hown) (by simp only [List.length_cons, List.length_nil] at hb; omega)
    · rw [keyT2] at hb ⊢
      exact laid_2 x s an ns.length cn a its.length c v l lo W hlo (hid_e hown) (by simp only [List.length_cons, List.length_nil] at hb; omega)
    · rw [keyT3] at hb ⊢
      exact laid_3 x s an ns.length cn a its.length c v l lo W hx hlo (hid_e hown) (by simp only [List.length_cons] at hb; omega)
    · rw [keyT4] at hb ⊢
      exact laid_4 x s an ns.length cn a its.length c v l lo W hlo (hid_e hown) (by simp only [List.length_cons] at hb; omega)
    · rw [keyT5] at hb ⊢
      exact laid_5 x s an ns.length cn a c its v l lo w0 W hB hl0 hlo (hid_e hown) (by omega) (by simp only [List.length_cons] at hb; omega) (hid_e hI) (hid_e hoks)
    · rw [keyT6] at hb ⊢
      have hnl' := hnl rfl
      rw [hnl'] at hn ⊢
      exact laid_6 x s an cn ns a c its v l lo w0 W hB hl0 hlo (hid_e hown) (by omega) (by simp only [List.length_cons] at hb; omega) (hid_e hnl') (hid_e hn) (hid_e hI) (hid_e hoks)
termination_by SizeOf.sizeOf t
decreasing_by simp only [Tr.node.sizeOf_spec]; omega
theorem check_code (t : Tr) (k x : Int) (s : ByteArray) (an : Option Addr) (ln cn : Nat) (ai : Option Addr) (li ci : Nat) (w : World) (hV : VRep w t (five k x s (.slice an ln cn) (.slice ai li ci))) (hS : SmallT t) (hU : Lib.Utf8Tabs 2 3 w) (h8 : 4 ≤ w.heap.size) :
    Calls Tryz.prog 55 #[.agg #[.int .i64 k, .int .i64 x, .string s, .slice an ln cn, .slice ai li ci]] w fun e w' => e = .returned (.int .i64 (checkT 0 t)) ∧ Below w.heap.size w w' := by
  have hB : ∀ o, Below w.heap.size w (w.alloc o) := fun o => (Below.refl _ _).alloc (Nat.le_refl _) _
  have hcall := fun o => hid_e (check_deep t 0 _ (w.alloc o) (by omega) (VRep.keep (hB o) _ _ hV) hS (utf_below hU (hB o) h8) (by rw [World.size_alloc]; omega))
  obtain ⟨c, hc⟩ : ∃ c, Hid (checkT 0 t = c) := ⟨_, hid_e rfl⟩
  rw [hc.out] at hcall ⊢
  go_enter Tryz.func55, Tryz.ntmps55
  go_wp2_with fail
  go_fit (hcall _).out
  rintro e w1 ⟨rfl, hb1⟩
  go_wp2_with fail
  go_ret
  exact ⟨rfl, below_box hb1⟩
/-- What Bytes answers. -/
structure BytesAt (w : World) (t : Tr) (kv : Value) (w' : World) : Prop where
  bad : checkT 0 t ≠ 0 → kv = .slice none 0 0
  good : checkT 0 t = 0 → w'.ownsRow w.heap.size 5 1 kv (keyT t).length (Lib.byteCells (keyT t))
  below : Below w.heap.size w w'
def BytesPost (w : World) (t : Tr) (e : Ending) (w' : World) : Prop := ∃ kv, e = .returned (.tuple #[kv, .int .i64 (checkT 0 t)]) ∧ BytesAt w t kv w'
set_option maxHeartbeats 2000000 in
set_option maxRecDepth 100000 in
theorem bytes_code (t : Tr) (k x : Int) (s : ByteArray) (an : Option Addr) (ln cn : Nat) (ai : Option Addr) (li ci : Nat) (w : World) (hV : Hid (VRep w t (five k x s (.slice an ln cn) (.slice ai li ci)))) (hS : Hid (SmallT t)) (hR : Hid (RangeT t)) (hT : Hid (checkT 0 t = 0 → 2 * (keyT t).length ≤ 100000000000)) (hU : Hid (Lib.Utf8Tabs 2 3 w)) (h8 : 4 ≤ w.heap.size) :
    Calls Tryz.prog 142 #[.agg #[.int .i64 k, .int .i64 x, .string s, .slice an ln cn, .slice ai li ci]] w (BytesPost w t) := by
  have hB : ∀ o, Below w.heap.size w (w.alloc o) := fun o => (Below.refl _ _).alloc (Nat.le_refl _) _
  have hcall := fun o => hid_e (check_code t k x s an ln cn ai li ci (w.alloc o) (VRep.keep (hB o) _ _ hV.out) hS.out (utf_below hU.out (hB o) h8) (by rw [World.size_alloc]; omega))
  unfold BytesPost
  obtain ⟨c, hc⟩ : ∃ c, Hid (checkT 0 t = c) := ⟨_, hid_e rfl⟩
  rw [hc.out] at hcall ⊢
  go_enter Tryz.func142, Tryz.ntmps142
  go_wp2_with fail
  go_fit (hcall _).out
  rintro e w1 ⟨rfl, hb1⟩
  clear hcall
  have hbw1 := below_box hb1
  by_cases h0 : c = 0
  · subst h0
    have hlaid := hid_e (laid_any t (good_of t 0 hc.out hR.out) w w.heap.size (Nat.le_refl _) _ w1 (.slice none 0 0) [] hV.out hbw1 hbw1.size (World.ownsRow_nil _ _ _ _) (by have := hT.out hc.out; simp only [List.length_nil]; omega))
    rw [List.nil_append] at hlaid
    have u0 : w1.cell? ⟨w.heap.size, 0, none⟩ = some (.int .i64 k) := box_cells hb1 0
    have u1 : w1.cell? ⟨w.heap.size, 1, none⟩ = some (.int .i64 x) := box_cells hb1 1
    have u2 : w1.cell? ⟨w.heap.size, 2, none⟩ = some (.string s) := box_cells hb1 2
    have u3 : w1.cell? ⟨w.heap.size, 3, none⟩ = some (.slice an ln cn) := box_cells hb1 3
    have u4 : w1.cell? ⟨w.heap.size, 4, none⟩ = some (.slice ai li ci) := box_cells hb1 4
    clear hb1
    go_wp2_with fail
    clear u0 u1 u2 u3 u4
    go_fit hlaid.out
    rintro e w2 ⟨kv, rfl, hK⟩
    have hb2 : Below w.heap.size w w2 := hbw1.trans (grown_below hK.grown hbw1.size (fun g hg => by simp [Value.ownBlock] at hg))
    have hK' := hid_e hK.own
    clear hlaid hK
    go_wp2_with fail
    go_ret2
    exact ⟨kv, rfl, ⟨fun h => absurd hc.out h, fun _ => hK'.out, hb2⟩⟩
  · have h0' : (c == 0) = false := by simpa using h0
    go_wp2_with fail
    go_ret2
    exact ⟨_, rfl, ⟨fun _ => rfl, fun h => absurd (hc.out.symm.trans h) h0, hbw1⟩⟩
end Go.Proofs.YthgnkhpomhcdkaaGreatDoor
