import Derived.Test.YtnlljodmkacmlaaGreatDoorE1
import Derived.Test.YtnlljodmkacmlaaGreatDoorZB3
import Derived.Deep.AppendLies
import Derived.Laws.Bits64
/-! order's laidText and laidNumber: bytes behind a key. -/
namespace Go.Proofs.YtnlljodmkacmlaaGreatDoor.Chk
open Go Go.RowKit

theorem Q5 : (Tryz.prog.info? 5).map (fun i => (i.zero, i.size, i.bytes)) = some (some (.int .u8 0), 1, 1) := by kernel_rfl
/-- A key under way: its bytes, and that of what was there only its own row has changed. -/
structure KeyAt (lo : Nat) (w0 : World) (b0 : Option Nat) (wr : World) (kv : Value) (l : List UInt8) : Prop where
  own : wr.ownsRow lo 5 1 kv l.length (Lib.byteCells l)
  grown : w0.grownBy wr b0
  pos : kv.ownBlock = b0 ∨ ∃ g, kv.ownBlock = some g ∧ w0.heap.size ≤ g
theorem KeyAt.start {lo : Nat} {w : World} {v : Value} {l : List UInt8} (h : w.ownsRow lo 5 1 v l.length (Lib.byteCells l)) : KeyAt lo w v.ownBlock w v l := ⟨h, World.grownBy.refl _ _, .inl rfl⟩
theorem KeyAt.alloc {lo : Nat} {w0 wr : World} {b0 : Option Nat} {kv : Value} {l : List UInt8} (h : KeyAt lo w0 b0 wr kv l) (o : Obj) : KeyAt lo w0 b0 (wr.alloc o) kv l :=
  ⟨h.own.alloc o, ⟨h.grown.os, h.grown.tape, h.grown.output, Nat.le_trans h.grown.size (by simp), fun k hk hne => (Below.heap_alloc wr o k (Nat.lt_of_lt_of_le hk h.grown.size)).trans (h.grown.block k hk hne)⟩, h.pos⟩
theorem KeyAt.drew {lo : Nat} {w0 wr : World} {b0 : Option Nat} {kv : Value} {l : List UInt8} (h : KeyAt lo w0 b0 wr kv l) : KeyAt lo w0 b0 wr.drew kv l := ⟨h.own, ⟨h.grown.os, h.grown.tape, h.grown.output, h.grown.size, h.grown.block⟩, h.pos⟩
theorem KeyAt.step {lo : Nat} {w0 wr w' : World} {b0 : Option Nat} {kv kv' : Value} {l l' : List UInt8} (h : KeyAt lo w0 b0 wr kv l) (ho : w'.ownsRow lo 5 1 kv' l'.length (Lib.byteCells l')) (hg : wr.grownBy w' kv.ownBlock) (hp : kv'.ownBlock = kv.ownBlock ∨ ∃ g, kv'.ownBlock = some g ∧ wr.heap.size ≤ g) : KeyAt lo w0 b0 w' kv' l' := by
  refine ⟨ho, ⟨hg.os.trans h.grown.os, hg.tape.trans h.grown.tape, hg.output.trans h.grown.output, Nat.le_trans h.grown.size hg.size, fun k hk hne => ?_⟩, ?_⟩
  · refine (hg.block k (Nat.lt_of_lt_of_le hk h.grown.size) (fun e => ?_)).trans (h.grown.block k hk hne)
    rcases h.pos with e1 | ⟨g, e1, e2⟩
    · exact hne (e.trans e1)
    · rw [e1] at e; injection e with e; omega
  · rcases hp with e | ⟨g, e1, e2⟩
    · rw [e]; exact h.pos
    · exact .inr ⟨g, e1, Nat.le_trans h.grown.size e2⟩
theorem KeyAt.app {lo : Nat} {w0 wr w' : World} {b0 : Option Nat} {kv : Value} {l add : List UInt8} {g cap m : Nat} {news : List Value} (h : KeyAt lo w0 b0 wr kv l) (hm : add.length = m) (hn : news = Lib.byteCells add)
    (ho : w'.ownsRow lo 5 1 (.slice (some ⟨g, 0, none⟩) (l.length + m) cap) (l.length + m) (Lib.byteCells l ++ news)) (hg : wr.grownBy w' kv.ownBlock) (hat : kv.ownBlock = some g ∨ g = wr.heap.size) : KeyAt lo w0 b0 w' (.slice (some ⟨g, 0, none⟩) (l.length + m) cap) (l ++ add) := by
  subst hm hn
  rw [← Lib.byteCells_append, ← List.length_append] at ho
  rw [← List.length_append]
  refine h.step ho hg ?_
  rcases hat with e | e
  · exact .inl (by rw [e]; rfl)
  · exact .inr ⟨g, rfl, by omega⟩
/-- What a call that lays bytes behind a key answers. -/
def KeyPost (lo : Nat) (w : World) (v : Value) (l : List UInt8) (e : Ending) (w' : World) : Prop := ∃ kv, e = .returned kv ∧ KeyAt lo w v.ownBlock w' kv l
theorem take_next {s : ByteArray} {i : Nat} (h : i < s.size) : s.data.toList.take (i + 1) = s.data.toList.take i ++ [s.data.getD i 0] := by
  have h1 : s.data.toList[i]? = some (s.data.getD i 0) := by
    rw [Array.getElem?_toList, Array.getD_eq_getD_getElem?]
    have : i < s.data.size := h
    rw [Array.getElem?_eq_getElem this]
    rfl
  rw [List.take_add_one, h1]
  rfl
theorem byte_at {s : ByteArray} {i : Nat} (h : i < s.size) : s[i] = s.data.getD i 0 := by
  have : i < s.data.size := h
  rw [Array.getD_eq_getD_getElem?, Array.getElem?_eq_getElem this]
  rfl
theorem flat_len (l : List UInt8) : (l.flatMap keyB).length ≤ 2 * l.length := by
  induction l with
  | nil => simp
  | cons b t ih =>
    rw [List.flatMap_cons, List.length_append, List.length_cons]
    have : (keyB b).length ≤ 2 := by unfold keyB; split <;> simp
    omega
set_option maxHeartbeats 8000000 in
set_option maxRecDepth 100000 in
theorem text_code (v : Value) (l : List UInt8) (s : ByteArray) (lo : Nat) (w : World) (hlo : lo ≤ w.heap.size) (hown : Hid (w.ownsRow lo 5 1 v l.length (Lib.byteCells l))) (hb : l.length + 2 * s.size ≤ 100000000000) :
    Calls Tryz.prog 150 #[v, .string s] w (KeyPost lo w v (l ++ keyS s.data.toList)) := by
  obtain ⟨i5, hi5, hz0, hz1, hz2⟩ := info_parts Q5
  go_enter Tryz.func150, Tryz.ntmps150
  go_wp2_with fail
  go_loopw [0, 8] (fun kv iv wr => ∃ i : Nat, i ≤ s.size ∧ iv = .int .i64 i ∧ Hid (KeyAt lo w v.ownBlock wr kv (l ++ (s.data.toList.take i).flatMap keyB))) (fun _ iv _ => s.size - (intOf iv).toNat)
  case atStart => exact ⟨0, Nat.zero_le _, rfl, by simpa [Hid] using KeyAt.start hown.out⟩
  case round =>
    obtain ⟨i, hi, rfl, hK⟩ := hrel
    obtain ⟨li, hli⟩ : ∃ z, Hid (l ++ (s.data.toList.take i).flatMap keyB = z) := ⟨_, hid_e rfl⟩
    rw [hli.out] at hK
    have hll : li.length ≤ 100000000000 := by
      rw [← hli.out, List.length_append]
      have h1 := flat_len (s.data.toList.take i)
      have h2 : (s.data.toList.take i).length ≤ i := by simp; omega
      omega
    have hbd : ∀ m : Nat, m ≤ 100 → li.length + m ≤ maxLen ∧ (li.length + m) * 1 ≤ 140737488355328 := fun m hm => by unfold maxLen; omega
    by_cases hlt : i < s.size
    · have i1 : (i : Int) < (s.size : Int) := by omega
      have he := byte_at hlt
      have htn := hid_e (take_next hlt)
      obtain ⟨b, hb0⟩ : ∃ z, Hid (s.data.getD i 0 = z) := ⟨_, hid_e rfl⟩
      rw [hb0.out] at he htn
      obtain ⟨c, hc⟩ : ∃ c : Nat, Hid (b.toNat = c) := ⟨_, hid_e rfl⟩
      have hbc : ((b.toNat : Nat) : Int) = (c : Int) := by rw [hc.out]
      go_upto_region 5 with (at_builtin; refine wpList_append_lies _ rfl _ _ 158 rfl lo 5 i5 _ 1 1 Tryz.underlying158 hi5 hz0 hz1 hz2 rfl (by decide) _ li.length _ rfl (hK.out.own.alloc _) ⟨wr.heap.size, 0, none⟩ 1 1 [.int .u8 (c : Int)] rfl rfl (World.news_of_block (heap_alloc_new wr (.cells #[.int .u8 (c : Int)] 5))) (fun u hu => by obtain rfl := List.mem_singleton.1 hu; rfl) (by decide) (hbd 1 (by decide)).1 (hbd 1 (by decide)).2 (by rw [World.size_alloc]; have := hK.out.grown.size; omega) _ rfl ?_; intro ga capa Wa ho hgr hat hlta)
      obtain ⟨la, hla⟩ : ∃ z, Hid (li ++ [b] = z) := ⟨_, hid_e rfl⟩
      have hna : Hid (li.length + 1 = la.length) := by rw [Hid, ← hla.out, List.length_append]; rfl
      have hKa : Hid (KeyAt lo w v.ownBlock Wa (.slice (some ⟨ga, 0, none⟩) la.length capa) la) := by
        rw [Hid, ← hna.out, ← hla.out]
        exact (hK.out.alloc (.cells #[.int .u8 (c : Int)] 5)).app rfl (by simp [Lib.byteCells, hbc]) ho hgr hat
      rw [hna.out]
      clear ho hgr hat hlta
      have hbd2 : ∀ m : Nat, m ≤ 100 → la.length + m ≤ maxLen ∧ (la.length + m) * 1 ≤ 140737488355328 := fun m hm => by have := hna.out; unfold maxLen; omega
      by_cases h0 : c = 0
      · subst h0
        have hb00 : Hid (b = 0) := by apply UInt8.toNat_inj.1; rw [hc.out]; rfl
        go_wp2_with (at_builtin; refine wpList_append_lies _ rfl _ _ 158 rfl lo 5 i5 _ 1 1 Tryz.underlying158 hi5 hz0 hz1 hz2 rfl (by decide) (.slice (some ⟨ga, 0, none⟩) la.length capa) la.length _ rfl (hKa.out.own.alloc _) ⟨Wa.heap.size, 0, none⟩ 1 1 [.int .u8 255] rfl rfl (World.news_of_block (heap_alloc_new Wa (.cells #[.int .u8 255] 5))) (fun u hu => by obtain rfl := List.mem_singleton.1 hu; rfl) (by decide) (hbd2 1 (by decide)).1 (hbd2 1 (by decide)).2 (by rw [World.size_alloc]; have := hKa.out.grown.size; omega) _ rfl ?_; intro gb capb Wb ho hgr hat hltb)
        obtain ⟨lb, hlb⟩ : ∃ z, Hid (la ++ [255] = z) := ⟨_, hid_e rfl⟩
        have hnb : Hid (la.length + 1 = lb.length) := by rw [Hid, ← hlb.out, List.length_append]; rfl
        have hKb : Hid (KeyAt lo w v.ownBlock Wb (.slice (some ⟨gb, 0, none⟩) lb.length capb) lb) := by
          rw [Hid, ← hnb.out, ← hlb.out]
          exact (hKa.out.alloc (.cells #[.int .u8 255] 5)).app rfl (by simp [Lib.byteCells]) ho hgr hat
        rw [hnb.out]
        clear ho hgr hat hltb
        have hK2 : Hid (KeyAt lo w v.ownBlock Wb (.slice (some ⟨gb, 0, none⟩) lb.length capb) (l ++ (s.data.toList.take (i + 1)).flatMap keyB)) := by
          have e : l ++ (s.data.toList.take (i + 1)).flatMap keyB = lb := by rw [htn.out, List.flatMap_append, ← List.append_assoc, hli.out, ← hlb.out, ← hla.out, hb00.out]; simp [keyB]
          rw [Hid, e]
          exact hKb.out
        go_wp2_with fail
        go_roundw
        case rel => exact ⟨i + 1, by omega, by go_num, hK2⟩
        case measure => simp [intOf]; omega
      · have hz : ((c : Int) == 0) = false := by simp; omega
        have hb00 : Hid (b ≠ 0) := by intro e; have h1 := hc.out; rw [e] at h1; exact h0 h1.symm
        have hK2 : Hid (KeyAt lo w v.ownBlock Wa (.slice (some ⟨ga, 0, none⟩) la.length capa) (l ++ (s.data.toList.take (i + 1)).flatMap keyB)) := by
          have e : l ++ (s.data.toList.take (i + 1)).flatMap keyB = la := by rw [htn.out, List.flatMap_append, ← List.append_assoc, hli.out, ← hla.out]; simp [keyB, hb00.out]
          rw [Hid, e]
          exact hKa.out
        go_wp2_with fail
        go_roundw
        case rel => exact ⟨i + 1, by omega, by go_num, hK2⟩
        case measure => simp [intOf]; omega
    · obtain rfl : i = s.size := by omega
      go_wp2_with (at_builtin; refine wpList_append_lies _ rfl _ _ 158 rfl lo 5 i5 _ 1 1 Tryz.underlying158 hi5 hz0 hz1 hz2 rfl (by decide) _ li.length _ rfl (hK.out.own.alloc _) ⟨wr.heap.size, 0, none⟩ 2 2 [.int .u8 0, .int .u8 1] rfl rfl (World.news_of_block (heap_alloc_new wr (.cells #[.int .u8 0, .int .u8 1] 5))) (fun u hu => by simp only [List.mem_cons, List.not_mem_nil, or_false] at hu; rcases hu with rfl | rfl <;> rfl) (by decide) (hbd 2 (by decide)).1 (hbd 2 (by decide)).2 (by rw [World.size_alloc]; have := hK.out.grown.size; omega) _ rfl ?_; intro ge cape We ho hgr hat hlte)
      obtain ⟨le, hle⟩ : ∃ z, Hid (li ++ [0, 1] = z) := ⟨_, hid_e rfl⟩
      have hne : Hid (li.length + 2 = le.length) := by rw [Hid, ← hle.out, List.length_append]; rfl
      have hKe : Hid (KeyAt lo w v.ownBlock We (.slice (some ⟨ge, 0, none⟩) le.length cape) le) := by
        rw [Hid, ← hne.out, ← hle.out]
        exact (hK.out.alloc (.cells #[.int .u8 0, .int .u8 1] 5)).app rfl (by simp [Lib.byteCells]) ho hgr hat
      rw [hne.out]
      clear ho hgr hat hlte
      have hK2 : Hid (KeyAt lo w v.ownBlock We (.slice (some ⟨ge, 0, none⟩) le.length cape) (l ++ keyS s.data.toList)) := by
        have e : l ++ keyS s.data.toList = le := by rw [← hle.out, ← hli.out, List.take_of_length_le (by rw [Array.length_toList]; exact Nat.le_refl _)]; unfold keyS; rw [List.append_assoc]
        rw [Hid, e]
        exact hKe.out
      go_wp2_with fail
      go_ret
      exact ⟨_, rfl, hK2.out⟩
end Go.Proofs.YtnlljodmkacmlaaGreatDoor.Chk
/-! order's laidNumber. -/
namespace Go.Proofs.YtnlljodmkacmlaaGreatDoor.Chk
open Go Go.RowKit

theorem wrap_lift (x : Int) (hx : -9223372036854775808 ≤ x ∧ x ≤ 9223372036854775807) : IntKind.u64.wrap (IntKind.u64.wrap x + 9223372036854775808) = x + 9223372036854775808 := by
  rw [IntKind.wrap_u64, IntKind.wrap_u64]; omega
theorem be_at : ∀ (n u i : Nat), u < 256 ^ n → i < n → (be n u)[i]? = some (UInt8.ofNat (u / 256 ^ (n - 1 - i) % 256))
  | 0, u, i, _, h => absurd h (by omega)
  | n + 1, u, 0, hu, _ => by
    have hp : 0 < 256 ^ n := Nat.pow_pos (by decide)
    have hu1 : u / 256 ^ n < 256 := by rw [Nat.div_lt_iff_lt_mul hp, ← Nat.pow_succ']; exact hu
    rw [be]
    simp only [List.getElem?_cons_zero, Nat.add_sub_cancel, Nat.sub_zero]
    rw [Nat.mod_eq_of_lt hu1]
  | n + 1, u, i + 1, hu, hi => by
    have hp : 0 < 256 ^ n := Nat.pow_pos (by decide)
    rw [be, List.getElem?_cons_succ, be_at n (u % 256 ^ n) i (Nat.mod_lt _ hp) (by omega)]
    have e1 : n + 1 - 1 - (i + 1) = n - 1 - i := by omega
    rw [e1]
    congr 2
    have e2 : 256 ^ n = 256 ^ (n - 1 - i) * 256 ^ (i + 1) := by rw [← Nat.pow_add]; congr 1; omega
    rw [e2, Nat.mod_mul_right_div_self, Nat.pow_succ', Nat.mod_mul_right_mod]
theorem be_next {u i D : Nat} (hu : u < 256 ^ 8) (hi : i < 8) (hD : 256 ^ (8 - 1 - i) = D) : (be 8 u).take (i + 1) = (be 8 u).take i ++ [UInt8.ofNat (u / D % 256)] := by
  rw [List.take_add_one, be_at 8 u i hu hi, hD]
  rfl
set_option maxHeartbeats 8000000 in
set_option maxRecDepth 100000 in
theorem number_code (v : Value) (l : List UInt8) (x : Int) (lo : Nat) (w : World) (hx : -9223372036854775808 ≤ x ∧ x ≤ 9223372036854775807) (hlo : lo ≤ w.heap.size) (hown : Hid (w.ownsRow lo 5 1 v l.length (Lib.byteCells l))) (hb : l.length ≤ 100000000000) :
    Calls Tryz.prog 149 #[v, .int .i64 x] w (KeyPost lo w v (l ++ keyN x)) := by
  obtain ⟨i5, hi5, hz0, hz1, hz2⟩ := info_parts Q5
  obtain ⟨u, hu⟩ : ∃ u : Nat, Hid ((x + 9223372036854775808).toNat = u) := ⟨_, hid_e rfl⟩
  have hux : Hid (x + 9223372036854775808 = (u : Int)) := by rw [Hid, ← hu.out]; omega
  have hw := wrap_lift x hx
  rw [hux.out] at hw
  have hul : Hid (u < 256 ^ 8) := by have h1 := hux.out; rw [Hid]; omega
  have hkn : Hid (keyN x = be 8 u) := by unfold keyN; rw [Hid, hu.out]
  rw [hkn.out]
  go_enter Tryz.func149, Tryz.ntmps149
  go_wp2_with fail
  go_loopw [0, 10] (fun kv iv wr => ∃ i : Nat, i ≤ 8 ∧ iv = .int .i64 i ∧ Hid (KeyAt lo w v.ownBlock wr kv (l ++ (be 8 u).take i))) (fun _ iv _ => 8 - (intOf iv).toNat)
  case atStart => exact ⟨0, Nat.zero_le _, rfl, by simpa [Hid] using KeyAt.start hown.out⟩
  case round =>
    obtain ⟨i, hi, rfl, hK⟩ := hrel
    obtain ⟨li, hli⟩ : ∃ z, Hid (l ++ (be 8 u).take i = z) := ⟨_, hid_e rfl⟩
    rw [hli.out] at hK
    have hll : li.length ≤ 100000000008 := by
      rw [← hli.out, List.length_append]
      have h2 : ((be 8 u).take i).length ≤ i := by simp; omega
      omega
    have hbd : ∀ m : Nat, m ≤ 100 → li.length + m ≤ maxLen ∧ (li.length + m) * 1 ≤ 140737488355328 := fun m hm => by unfold maxLen; omega
    by_cases hlt : i < 8
    · have hcases : i = 0 ∨ i = 1 ∨ i = 2 ∨ i = 3 ∨ i = 4 ∨ i = 5 ∨ i = 6 ∨ i = 7 := by omega
      rcases hcases with rfl | rfl | rfl | rfl | rfl | rfl | rfl | rfl
      · have hnx := hid_e (be_next (i := 0) (D := 72057594037927936) hul.out (by decide) (by decide))
        obtain ⟨c, hc⟩ : ∃ c : Nat, Hid (u / 72057594037927936 % 256 = c) := ⟨_, hid_e rfl⟩
        rw [hc.out] at hnx
        have hq : (u : Int) / 72057594037927936 % 256 = (c : Int) := by have h1 := hc.out; omega
        have hc256 : c < 256 := by rw [← hc.out]; omega
        obtain ⟨b, hb0⟩ : ∃ z, Hid (UInt8.ofNat c = z) := ⟨_, hid_e rfl⟩
        have hbc : ((b.toNat : Nat) : Int) = (c : Int) := by rw [← hb0.out, UInt8.toNat_ofNat']; omega
        rw [hb0.out] at hnx
        go_wp2_with (at_builtin; refine wpList_append_lies _ rfl _ _ 158 rfl lo 5 i5 _ 1 1 Tryz.underlying158 hi5 hz0 hz1 hz2 rfl (by decide) _ li.length _ rfl (hK.out.own.alloc _) ⟨wr.heap.size, 0, none⟩ 1 1 [.int .u8 (c : Int)] rfl rfl (World.news_of_block (heap_alloc_new wr (.cells #[.int .u8 (c : Int)] 5))) (fun u hu => by obtain rfl := List.mem_singleton.1 hu; rfl) (by decide) (hbd 1 (by decide)).1 (hbd 1 (by decide)).2 (by rw [World.size_alloc]; have := hK.out.grown.size; omega) _ rfl ?_; intro ga capa Wa ho hgr hat hlta)
        obtain ⟨la, hla⟩ : ∃ z, Hid (li ++ [b] = z) := ⟨_, hid_e rfl⟩
        have hna : Hid (li.length + 1 = la.length) := by rw [Hid, ← hla.out, List.length_append]; rfl
        have hKa : Hid (KeyAt lo w v.ownBlock Wa (.slice (some ⟨ga, 0, none⟩) la.length capa) la) := by
          rw [Hid, ← hna.out, ← hla.out]
          exact (hK.out.alloc (.cells #[.int .u8 (c : Int)] 5)).app rfl (by simp [Lib.byteCells, hbc]) ho hgr hat
        rw [hna.out]
        clear ho hgr hat hlta
        have hK2 : Hid (KeyAt lo w v.ownBlock Wa (.slice (some ⟨ga, 0, none⟩) la.length capa) (l ++ (be 8 u).take (0 + 1))) := by
          have e : l ++ (be 8 u).take (0 + 1) = la := by rw [hnx.out, ← List.append_assoc, hli.out, ← hla.out]
          rw [Hid, e]
          exact hKa.out
        clear hq hbc
        go_wp2_with fail
        go_roundw
        case rel => exact ⟨0 + 1, by omega, by go_num, hK2⟩
        case measure => simp [intOf]
      · have hnx := hid_e (be_next (i := 1) (D := 281474976710656) hul.out (by decide) (by decide))
        obtain ⟨c, hc⟩ : ∃ c : Nat, Hid (u / 281474976710656 % 256 = c) := ⟨_, hid_e rfl⟩
        rw [hc.out] at hnx
        have hq : (u : Int) / 281474976710656 % 256 = (c : Int) := by have h1 := hc.out; omega
        have hc256 : c < 256 := by rw [← hc.out]; omega
        obtain ⟨b, hb0⟩ : ∃ z, Hid (UInt8.ofNat c = z) := ⟨_, hid_e rfl⟩
        have hbc : ((b.toNat : Nat) : Int) = (c : Int) := by rw [← hb0.out, UInt8.toNat_ofNat']; omega
        rw [hb0.out] at hnx
        go_wp2_with (at_builtin; refine wpList_append_lies _ rfl _ _ 158 rfl lo 5 i5 _ 1 1 Tryz.underlying158 hi5 hz0 hz1 hz2 rfl (by decide) _ li.length _ rfl (hK.out.own.alloc _) ⟨wr.heap.size, 0, none⟩ 1 1 [.int .u8 (c : Int)] rfl rfl (World.news_of_block (heap_alloc_new wr (.cells #[.int .u8 (c : Int)] 5))) (fun u hu => by obtain rfl := List.mem_singleton.1 hu; rfl) (by decide) (hbd 1 (by decide)).1 (hbd 1 (by decide)).2 (by rw [World.size_alloc]; have := hK.out.grown.size; omega) _ rfl ?_; intro ga capa Wa ho hgr hat hlta)
        obtain ⟨la, hla⟩ : ∃ z, Hid (li ++ [b] = z) := ⟨_, hid_e rfl⟩
        have hna : Hid (li.length + 1 = la.length) := by rw [Hid, ← hla.out, List.length_append]; rfl
        have hKa : Hid (KeyAt lo w v.ownBlock Wa (.slice (some ⟨ga, 0, none⟩) la.length capa) la) := by
          rw [Hid, ← hna.out, ← hla.out]
          exact (hK.out.alloc (.cells #[.int .u8 (c : Int)] 5)).app rfl (by simp [Lib.byteCells, hbc]) ho hgr hat
        rw [hna.out]
        clear ho hgr hat hlta
        have hK2 : Hid (KeyAt lo w v.ownBlock Wa (.slice (some ⟨ga, 0, none⟩) la.length capa) (l ++ (be 8 u).take (1 + 1))) := by
          have e : l ++ (be 8 u).take (1 + 1) = la := by rw [hnx.out, ← List.append_assoc, hli.out, ← hla.out]
          rw [Hid, e]
          exact hKa.out
        clear hq hbc
        go_wp2_with fail
        go_roundw
        case rel => exact ⟨1 + 1, by omega, by go_num, hK2⟩
        case measure => simp [intOf]
      · have hnx := hid_e (be_next (i := 2) (D := 1099511627776) hul.out (by decide) (by decide))
        obtain ⟨c, hc⟩ : ∃ c : Nat, Hid (u / 1099511627776 % 256 = c) := ⟨_, hid_e rfl⟩
        rw [hc.out] at hnx
        have hq : (u : Int) / 1099511627776 % 256 = (c : Int) := by have h1 := hc.out; omega
        have hc256 : c < 256 := by rw [← hc.out]; omega
        obtain ⟨b, hb0⟩ : ∃ z, Hid (UInt8.ofNat c = z) := ⟨_, hid_e rfl⟩
        have hbc : ((b.toNat : Nat) : Int) = (c : Int) := by rw [← hb0.out, UInt8.toNat_ofNat']; omega
        rw [hb0.out] at hnx
        go_wp2_with (at_builtin; refine wpList_append_lies _ rfl _ _ 158 rfl lo 5 i5 _ 1 1 Tryz.underlying158 hi5 hz0 hz1 hz2 rfl (by decide) _ li.length _ rfl (hK.out.own.alloc _) ⟨wr.heap.size, 0, none⟩ 1 1 [.int .u8 (c : Int)] rfl rfl (World.news_of_block (heap_alloc_new wr (.cells #[.int .u8 (c : Int)] 5))) (fun u hu => by obtain rfl := List.mem_singleton.1 hu; rfl) (by decide) (hbd 1 (by decide)).1 (hbd 1 (by decide)).2 (by rw [World.size_alloc]; have := hK.out.grown.size; omega) _ rfl ?_; intro ga capa Wa ho hgr hat hlta)
        obtain ⟨la, hla⟩ : ∃ z, Hid (li ++ [b] = z) := ⟨_, hid_e rfl⟩
        have hna : Hid (li.length + 1 = la.length) := by rw [Hid, ← hla.out, List.length_append]; rfl
        have hKa : Hid (KeyAt lo w v.ownBlock Wa (.slice (some ⟨ga, 0, none⟩) la.length capa) la) := by
          rw [Hid, ← hna.out, ← hla.out]
          exact (hK.out.alloc (.cells #[.int .u8 (c : Int)] 5)).app rfl (by simp [Lib.byteCells, hbc]) ho hgr hat
        rw [hna.out]
        clear ho hgr hat hlta
        have hK2 : Hid (KeyAt lo w v.ownBlock Wa (.slice (some ⟨ga, 0, none⟩) la.length capa) (l ++ (be 8 u).take (2 + 1))) := by
          have e : l ++ (be 8 u).take (2 + 1) = la := by rw [hnx.out, ← List.append_assoc, hli.out, ← hla.out]
          rw [Hid, e]
          exact hKa.out
        clear hq hbc
        go_wp2_with fail
        go_roundw
        case rel => exact ⟨2 + 1, by omega, by go_num, hK2⟩
        case measure => simp [intOf]
      · have hnx := hid_e (be_next (i := 3) (D := 4294967296) hul.out (by decide) (by decide))
        obtain ⟨c, hc⟩ : ∃ c : Nat, Hid (u / 4294967296 % 256 = c) := ⟨_, hid_e rfl⟩
        rw [hc.out] at hnx
        have hq : (u : Int) / 4294967296 % 256 = (c : Int) := by have h1 := hc.out; omega
        have hc256 : c < 256 := by rw [← hc.out]; omega
        obtain ⟨b, hb0⟩ : ∃ z, Hid (UInt8.ofNat c = z) := ⟨_, hid_e rfl⟩
        have hbc : ((b.toNat : Nat) : Int) = (c : Int) := by rw [← hb0.out, UInt8.toNat_ofNat']; omega
        rw [hb0.out] at hnx
        go_wp2_with (at_builtin; refine wpList_append_lies _ rfl _ _ 158 rfl lo 5 i5 _ 1 1 Tryz.underlying158 hi5 hz0 hz1 hz2 rfl (by decide) _ li.length _ rfl (hK.out.own.alloc _) ⟨wr.heap.size, 0, none⟩ 1 1 [.int .u8 (c : Int)] rfl rfl (World.news_of_block (heap_alloc_new wr (.cells #[.int .u8 (c : Int)] 5))) (fun u hu => by obtain rfl := List.mem_singleton.1 hu; rfl) (by decide) (hbd 1 (by decide)).1 (hbd 1 (by decide)).2 (by rw [World.size_alloc]; have := hK.out.grown.size; omega) _ rfl ?_; intro ga capa Wa ho hgr hat hlta)
        obtain ⟨la, hla⟩ : ∃ z, Hid (li ++ [b] = z) := ⟨_, hid_e rfl⟩
        have hna : Hid (li.length + 1 = la.length) := by rw [Hid, ← hla.out, List.length_append]; rfl
        have hKa : Hid (KeyAt lo w v.ownBlock Wa (.slice (some ⟨ga, 0, none⟩) la.length capa) la) := by
          rw [Hid, ← hna.out, ← hla.out]
          exact (hK.out.alloc (.cells #[.int .u8 (c : Int)] 5)).app rfl (by simp [Lib.byteCells, hbc]) ho hgr hat
        rw [hna.out]
        clear ho hgr hat hlta
        have hK2 : Hid (KeyAt lo w v.ownBlock Wa (.slice (some ⟨ga, 0, none⟩) la.length capa) (l ++ (be 8 u).take (3 + 1))) := by
          have e : l ++ (be 8 u).take (3 + 1) = la := by rw [hnx.out, ← List.append_assoc, hli.out, ← hla.out]
          rw [Hid, e]
          exact hKa.out
        clear hq hbc
        go_wp2_with fail
        go_roundw
        case rel => exact ⟨3 + 1, by omega, by go_num, hK2⟩
        case measure => simp [intOf]
      · have hnx := hid_e (be_next (i := 4) (D := 16777216) hul.out (by decide) (by decide))
        obtain ⟨c, hc⟩ : ∃ c : Nat, Hid (u / 16777216 % 256 = c) := ⟨_, hid_e rfl⟩
        rw [hc.out] at hnx
        have hq : (u : Int) / 16777216 % 256 = (c : Int) := by have h1 := hc.out; omega
        have hc256 : c < 256 := by rw [← hc.out]; omega
        obtain ⟨b, hb0⟩ : ∃ z, Hid (UInt8.ofNat c = z) := ⟨_, hid_e rfl⟩
        have hbc : ((b.toNat : Nat) : Int) = (c : Int) := by rw [← hb0.out, UInt8.toNat_ofNat']; omega
        rw [hb0.out] at hnx
        go_wp2_with (at_builtin; refine wpList_append_lies _ rfl _ _ 158 rfl lo 5 i5 _ 1 1 Tryz.underlying158 hi5 hz0 hz1 hz2 rfl (by decide) _ li.length _ rfl (hK.out.own.alloc _) ⟨wr.heap.size, 0, none⟩ 1 1 [.int .u8 (c : Int)] rfl rfl (World.news_of_block (heap_alloc_new wr (.cells #[.int .u8 (c : Int)] 5))) (fun u hu => by obtain rfl := List.mem_singleton.1 hu; rfl) (by decide) (hbd 1 (by decide)).1 (hbd 1 (by decide)).2 (by rw [World.size_alloc]; have := hK.out.grown.size; omega) _ rfl ?_; intro ga capa Wa ho hgr hat hlta)
        obtain ⟨la, hla⟩ : ∃ z, Hid (li ++ [b] = z) := ⟨_, hid_e rfl⟩
        have hna : Hid (li.length + 1 = la.length) := by rw [Hid, ← hla.out, List.length_append]; rfl
        have hKa : Hid (KeyAt lo w v.ownBlock Wa (.slice (some ⟨ga, 0, none⟩) la.length capa) la) := by
          rw [Hid, ← hna.out, ← hla.out]
          exact (hK.out.alloc (.cells #[.int .u8 (c : Int)] 5)).app rfl (by simp [Lib.byteCells, hbc]) ho hgr hat
        rw [hna.out]
        clear ho hgr hat hlta
        have hK2 : Hid (KeyAt lo w v.ownBlock Wa (.slice (some ⟨ga, 0, none⟩) la.length capa) (l ++ (be 8 u).take (4 + 1))) := by
          have e : l ++ (be 8 u).take (4 + 1) = la := by rw [hnx.out, ← List.append_assoc, hli.out, ← hla.out]
          rw [Hid, e]
          exact hKa.out
        clear hq hbc
        go_wp2_with fail
        go_roundw
        case rel => exact ⟨4 + 1, by omega, by go_num, hK2⟩
        case measure => simp [intOf]
      · have hnx := hid_e (be_next (i := 5) (D := 65536) hul.out (by decide) (by decide))
        obtain ⟨c, hc⟩ : ∃ c : Nat, Hid (u / 65536 % 256 = c) := ⟨_, hid_e rfl⟩
        rw [hc.out] at hnx
        have hq : (u : Int) / 65536 % 256 = (c : Int) := by have h1 := hc.out; omega
        have hc256 : c < 256 := by rw [← hc.out]; omega
        obtain ⟨b, hb0⟩ : ∃ z, Hid (UInt8.ofNat c = z) := ⟨_, hid_e rfl⟩
        have hbc : ((b.toNat : Nat) : Int) = (c : Int) := by rw [← hb0.out, UInt8.toNat_ofNat']; omega
        rw [hb0.out] at hnx
        go_wp2_with (at_builtin; refine wpList_append_lies _ rfl _ _ 158 rfl lo 5 i5 _ 1 1 Tryz.underlying158 hi5 hz0 hz1 hz2 rfl (by decide) _ li.length _ rfl (hK.out.own.alloc _) ⟨wr.heap.size, 0, none⟩ 1 1 [.int .u8 (c : Int)] rfl rfl (World.news_of_block (heap_alloc_new wr (.cells #[.int .u8 (c : Int)] 5))) (fun u hu => by obtain rfl := List.mem_singleton.1 hu; rfl) (by decide) (hbd 1 (by decide)).1 (hbd 1 (by decide)).2 (by rw [World.size_alloc]; have := hK.out.grown.size; omega) _ rfl ?_; intro ga capa Wa ho hgr hat hlta)
        obtain ⟨la, hla⟩ : ∃ z, Hid (li ++ [b] = z) := ⟨_, hid_e rfl⟩
        have hna : Hid (li.length + 1 = la.length) := by rw [Hid, ← hla.out, List.length_append]; rfl
        have hKa : Hid (KeyAt lo w v.ownBlock Wa (.slice (some ⟨ga, 0, none⟩) la.length capa) la) := by
          rw [Hid, ← hna.out, ← hla.out]
          exact (hK.out.alloc (.cells #[.int .u8 (c : Int)] 5)).app rfl (by simp [Lib.byteCells, hbc]) ho hgr hat
        rw [hna.out]
        clear ho hgr hat hlta
        have hK2 : Hid (KeyAt lo w v.ownBlock Wa (.slice (some ⟨ga, 0, none⟩) la.length capa) (l ++ (be 8 u).take (5 + 1))) := by
          have e : l ++ (be 8 u).take (5 + 1) = la := by rw [hnx.out, ← List.append_assoc, hli.out, ← hla.out]
          rw [Hid, e]
          exact hKa.out
        clear hq hbc
        go_wp2_with fail
        go_roundw
        case rel => exact ⟨5 + 1, by omega, by go_num, hK2⟩
        case measure => simp [intOf]
      · have hnx := hid_e (be_next (i := 6) (D := 256) hul.out (by decide) (by decide))
        obtain ⟨c, hc⟩ : ∃ c : Nat, Hid (u / 256 % 256 = c) := ⟨_, hid_e rfl⟩
        rw [hc.out] at hnx
        have hq : (u : Int) / 256 % 256 = (c : Int) := by have h1 := hc.out; omega
        have hc256 : c < 256 := by rw [← hc.out]; omega
        obtain ⟨b, hb0⟩ : ∃ z, Hid (UInt8.ofNat c = z) := ⟨_, hid_e rfl⟩
        have hbc : ((b.toNat : Nat) : Int) = (c : Int) := by rw [← hb0.out, UInt8.toNat_ofNat']; omega
        rw [hb0.out] at hnx
        go_wp2_with (at_builtin; refine wpList_append_lies _ rfl _ _ 158 rfl lo 5 i5 _ 1 1 Tryz.underlying158 hi5 hz0 hz1 hz2 rfl (by decide) _ li.length _ rfl (hK.out.own.alloc _) ⟨wr.heap.size, 0, none⟩ 1 1 [.int .u8 (c : Int)] rfl rfl (World.news_of_block (heap_alloc_new wr (.cells #[.int .u8 (c : Int)] 5))) (fun u hu => by obtain rfl := List.mem_singleton.1 hu; rfl) (by decide) (hbd 1 (by decide)).1 (hbd 1 (by decide)).2 (by rw [World.size_alloc]; have := hK.out.grown.size; omega) _ rfl ?_; intro ga capa Wa ho hgr hat hlta)
        obtain ⟨la, hla⟩ : ∃ z, Hid (li ++ [b] = z) := ⟨_, hid_e rfl⟩
        have hna : Hid (li.length + 1 = la.length) := by rw [Hid, ← hla.out, List.length_append]; rfl
        have hKa : Hid (KeyAt lo w v.ownBlock Wa (.slice (some ⟨ga, 0, none⟩) la.length capa) la) := by
          rw [Hid, ← hna.out, ← hla.out]
          exact (hK.out.alloc (.cells #[.int .u8 (c : Int)] 5)).app rfl (by simp [Lib.byteCells, hbc]) ho hgr hat
        rw [hna.out]
        clear ho hgr hat hlta
        have hK2 : Hid (KeyAt lo w v.ownBlock Wa (.slice (some ⟨ga, 0, none⟩) la.length capa) (l ++ (be 8 u).take (6 + 1))) := by
          have e : l ++ (be 8 u).take (6 + 1) = la := by rw [hnx.out, ← List.append_assoc, hli.out, ← hla.out]
          rw [Hid, e]
          exact hKa.out
        clear hq hbc
        go_wp2_with fail
        go_roundw
        case rel => exact ⟨6 + 1, by omega, by go_num, hK2⟩
        case measure => simp [intOf]
      · have hnx := hid_e (be_next (i := 7) (D := 1) hul.out (by decide) (by decide))
        obtain ⟨c, hc⟩ : ∃ c : Nat, Hid (u / 1 % 256 = c) := ⟨_, hid_e rfl⟩
        rw [hc.out] at hnx
        have hq : (u : Int) % 256 = (c : Int) := by have h1 := hc.out; omega
        have hc256 : c < 256 := by rw [← hc.out]; omega
        obtain ⟨b, hb0⟩ : ∃ z, Hid (UInt8.ofNat c = z) := ⟨_, hid_e rfl⟩
        have hbc : ((b.toNat : Nat) : Int) = (c : Int) := by rw [← hb0.out, UInt8.toNat_ofNat']; omega
        rw [hb0.out] at hnx
        go_wp2_with (at_builtin; refine wpList_append_lies _ rfl _ _ 158 rfl lo 5 i5 _ 1 1 Tryz.underlying158 hi5 hz0 hz1 hz2 rfl (by decide) _ li.length _ rfl (hK.out.own.alloc _) ⟨wr.heap.size, 0, none⟩ 1 1 [.int .u8 (c : Int)] rfl rfl (World.news_of_block (heap_alloc_new wr (.cells #[.int .u8 (c : Int)] 5))) (fun u hu => by obtain rfl := List.mem_singleton.1 hu; rfl) (by decide) (hbd 1 (by decide)).1 (hbd 1 (by decide)).2 (by rw [World.size_alloc]; have := hK.out.grown.size; omega) _ rfl ?_; intro ga capa Wa ho hgr hat hlta)
        obtain ⟨la, hla⟩ : ∃ z, Hid (li ++ [b] = z) := ⟨_, hid_e rfl⟩
        have hna : Hid (li.length + 1 = la.length) := by rw [Hid, ← hla.out, List.length_append]; rfl
        have hKa : Hid (KeyAt lo w v.ownBlock Wa (.slice (some ⟨ga, 0, none⟩) la.length capa) la) := by
          rw [Hid, ← hna.out, ← hla.out]
          exact (hK.out.alloc (.cells #[.int .u8 (c : Int)] 5)).app rfl (by simp [Lib.byteCells, hbc]) ho hgr hat
        rw [hna.out]
        clear ho hgr hat hlta
        have hK2 : Hid (KeyAt lo w v.ownBlock Wa (.slice (some ⟨ga, 0, none⟩) la.length capa) (l ++ (be 8 u).take (7 + 1))) := by
          have e : l ++ (be 8 u).take (7 + 1) = la := by rw [hnx.out, ← List.append_assoc, hli.out, ← hla.out]
          rw [Hid, e]
          exact hKa.out
        clear hq hbc
        go_wp2_with fail
        go_roundw
        case rel => exact ⟨7 + 1, by omega, by go_num, hK2⟩
        case measure => simp [intOf]
    · obtain rfl : i = 8 := by omega
      have e : l ++ be 8 u = li := by rw [← hli.out, List.take_of_length_le (by rw [be_len]; exact Nat.le_refl _)]
      have hK2 : Hid (KeyAt lo w v.ownBlock wr u0 (l ++ be 8 u)) := by rw [Hid, e]; exact hK.out
      go_wp2_with fail
      go_ret
      exact ⟨_, rfl, hK2.out⟩
end Go.Proofs.YtnlljodmkacmlaaGreatDoor.Chk
