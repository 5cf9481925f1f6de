import Derived.Test.YtjmneiepcbpdpaaDoorF1
/-! order's laidNumber. -/
namespace Go.Proofs.YtjmneiepcbpdpaaDoor
open Go Go.RowKit

theorem wrap_lift (x : Int) (hx : -9223372036854775808 ≤ x ∧ x ≤ 9223372036854775807) : IntKind.u64.wrap (IntKind.u64.wrap x + 9223372036854775808) = x + 9223372036854775808 := by
  rw [IntKind.wrap_u64, IntKind.wrap_u64]; omega
theorem be_at : ∀ (n u i : Nat), u < 256 ^ n → i < n → (be n u)[i]? = some (UInt8.ofNat (u / 256 ^ (n - 1 - i) % 256))
  | 0, u, i, _, h => absurd h (by omega)
  | n + 1, u, 0, hu, _ => by
    have hp : 0 < 256 ^ n := Nat.pow_pos (by decide)
    have hu1 : u / 256 ^ n < 256 := by rw [Nat.div_lt_iff_lt_mul hp, ← Nat.pow_succ']; exact hu
    rw [be]
    simp only [List.getElem?_cons_zero, Nat.add_sub_cancel, Nat.sub_zero]
    rw [Nat.mod_eq_of_lt hu1]
  | n + 1, u, i + 1, hu, hi => by
    have hp : 0 < 256 ^ n := Nat.pow_pos (by decide)
    rw [be, List.getElem?_cons_succ, be_at n (u % 256 ^ n) i (Nat.mod_lt _ hp) (by omega)]
    have e1 : n + 1 - 1 - (i + 1) = n - 1 - i := by omega
    rw [e1]
    congr 2
    have e2 : 256 ^ n = 256 ^ (n - 1 - i) * 256 ^ (i + 1) := by rw [← Nat.pow_add]; congr 1; omega
    rw [e2, Nat.mod_mul_right_div_self, Nat.pow_succ', Nat.mod_mul_right_mod]
theorem be_next {u i D : Nat} (hu : u < 256 ^ 8) (hi : i < 8) (hD : 256 ^ (8 - 1 - i) = D) : (be 8 u).take (i + 1) = (be 8 u).take i ++ [UInt8.ofNat (u / D % 256)] := by
  rw [List.take_add_one, be_at 8 u i hu hi, hD]
  rfl
set_option maxHeartbeats 8000000 in
set_option maxRecDepth 100000 in
theorem number_code (v : Value) (l : List UInt8) (x : Int) (lo : Nat) (w : World) (hx : -9223372036854775808 ≤ x ∧ x ≤ 9223372036854775807) (hlo : lo ≤ w.heap.size) (hown : Hid (w.ownsRow lo 5 1 v l.length (Lib.byteCells l))) (hb : l.length ≤ 100000000000) :
    Calls Tryd.prog 21 #[v, .int .i64 x] w (KeyPost lo w v (l ++ keyN x)) := by
  obtain ⟨i5, hi5, hz0, hz1, hz2⟩ := info_parts Q5
  obtain ⟨u, hu⟩ : ∃ u : Nat, Hid ((x + 9223372036854775808).toNat = u) := ⟨_, hid_e rfl⟩
  have hux : Hid (x + 9223372036854775808 = (u : Int)) := by rw [Hid, ← hu.out]; omega
  have hw := wrap_lift x hx
  rw [hux.out] at hw
  have hul : Hid (u < 256 ^ 8) := by have h1 := hux.out; rw [Hid]; omega
  have hkn : Hid (keyN x = be 8 u) := by unfold keyN; rw [Hid, hu.out]
  rw [hkn.out]
  go_enter Tryd.func21, Tryd.ntmps21
  go_wp2_with fail
  go_loopw [0, 10] (fun kv iv wr => ∃ i : Nat, i ≤ 8 ∧ iv = .int .i64 i ∧ Hid (KeyAt lo w v.ownBlock wr kv (l ++ (be 8 u).take i))) (fun _ iv _ => 8 - (intOf iv).toNat)
  case atStart => exact ⟨0, Nat.zero_le _, rfl, by simpa [Hid] using KeyAt.start hown.out⟩
  case round =>
    obtain ⟨i, hi, rfl, hK⟩ := hrel
    obtain ⟨li, hli⟩ : ∃ z, Hid (l ++ (be 8 u).take i = z) := ⟨_, hid_e rfl⟩
    rw [hli.out] at hK
    have hll : li.length ≤ 100000000008 := by
      rw [← hli.out, List.length_append]
      have h2 : ((be 8 u).take i).length ≤ i := by simp; omega
      omega
    have hbd : ∀ m : Nat, m ≤ 100 → li.length + m ≤ maxLen ∧ (li.length + m) * 1 ≤ 140737488355328 := fun m hm => by unfold maxLen; omega
    by_cases hlt : i < 8
    · have hcases : i = 0 ∨ i = 1 ∨ i = 2 ∨ i = 3 ∨ i = 4 ∨ i = 5 ∨ i = 6 ∨ i = 7 := by omega
      rcases hcases with rfl | rfl | rfl | rfl | rfl | rfl | rfl | rfl
      · have hnx := hid_e (be_next (i := 0) (D := 72057594037927936) hul.out (by decide) (by decide))
        obtain ⟨c, hc⟩ : ∃ c : Nat, Hid (u / 72057594037927936 % 256 = c) := ⟨_, hid_e rfl⟩
        rw [hc.out] at hnx
        have hq : (u : Int) / 72057594037927936 % 256 = (c : Int) := by have h1 := hc.out; omega
        have hc256 : c < 256 := by rw [← hc.out]; omega
        obtain ⟨b, hb0⟩ : ∃ z, Hid (UInt8.ofNat c = z) := ⟨_, hid_e rfl⟩
        have hbc : ((b.toNat : Nat) : Int) = (c : Int) := by rw [← hb0.out, UInt8.toNat_ofNat']; omega
        rw [hb0.out] at hnx
        go_wp2_with (at_builtin; refine wpList_append_lies _ rfl _ _ 26 rfl lo 5 i5 _ 1 1 Tryd.underlying26 hi5 hz0 hz1 hz2 rfl (by decide) _ li.length _ rfl (hK.out.own.alloc _) ⟨wr.heap.size, 0, none⟩ 1 1 [.int .u8 (c : Int)] rfl rfl (World.news_of_block (heap_alloc_new wr (.cells #[.int .u8 (c : Int)] 5))) (fun u hu => by obtain rfl := List.mem_singleton.1 hu; rfl) (by decide) (hbd 1 (by decide)).1 (hbd 1 (by decide)).2 (by rw [World.size_alloc]; have := hK.out.grown.size; omega) _ rfl ?_; intro ga capa Wa ho hgr hat hlta)
        obtain ⟨la, hla⟩ : ∃ z, Hid (li ++ [b] = z) := ⟨_, hid_e rfl⟩
        have hna : Hid (li.length + 1 = la.length) := by rw [Hid, ← hla.out, List.length_append]; rfl
        have hKa : Hid (KeyAt lo w v.ownBlock Wa (.slice (some ⟨ga, 0, none⟩) la.length capa) la) := by
          rw [Hid, ← hna.out, ← hla.out]
          exact (hK.out.alloc (.cells #[.int .u8 (c : Int)] 5)).app rfl (by simp [Lib.byteCells, hbc]) ho hgr hat
        rw [hna.out]
        clear ho hgr hat hlta
        have hK2 : Hid (KeyAt lo w v.ownBlock Wa (.slice (some ⟨ga, 0, none⟩) la.length capa) (l ++ (be 8 u).take (0 + 1))) := by
          have e : l ++ (be 8 u).take (0 + 1) = la := by rw [hnx.out, ← List.append_assoc, hli.out, ← hla.out]
          rw [Hid, e]
          exact hKa.out
        clear hq hbc
        go_wp2_with fail
        go_roundw
        case rel => exact ⟨0 + 1, by omega, by go_num, hK2⟩
        case measure => simp [intOf]
      · have hnx := hid_e (be_next (i := 1) (D := 281474976710656) hul.out (by decide) (by decide))
        obtain ⟨c, hc⟩ : ∃ c : Nat, Hid (u / 281474976710656 % 256 = c) := ⟨_, hid_e rfl⟩
        rw [hc.out] at hnx
        have hq : (u : Int) / 281474976710656 % 256 = (c : Int) := by have h1 := hc.out; omega
        have hc256 : c < 256 := by rw [← hc.out]; omega
        obtain ⟨b, hb0⟩ : ∃ z, Hid (UInt8.ofNat c = z) := ⟨_, hid_e rfl⟩
        have hbc : ((b.toNat : Nat) : Int) = (c : Int) := by rw [← hb0.out, UInt8.toNat_ofNat']; omega
        rw [hb0.out] at hnx
        go_wp2_with (at_builtin; refine wpList_append_lies _ rfl _ _ 26 rfl lo 5 i5 _ 1 1 Tryd.underlying26 hi5 hz0 hz1 hz2 rfl (by decide) _ li.length _ rfl (hK.out.own.alloc _) ⟨wr.heap.size, 0, none⟩ 1 1 [.int .u8 (c : Int)] rfl rfl (World.news_of_block (heap_alloc_new wr (.cells #[.int .u8 (c : Int)] 5))) (fun u hu => by obtain rfl := List.mem_singleton.1 hu; rfl) (by decide) (hbd 1 (by decide)).1 (hbd 1 (by decide)).2 (by rw [World.size_alloc]; have := hK.out.grown.size; omega) _ rfl ?_; intro ga capa Wa ho hgr hat hlta)
        obtain ⟨la, hla⟩ : ∃ z, Hid (li ++ [b] = z) := ⟨_, hid_e rfl⟩
        have hna : Hid (li.length + 1 = la.length) := by rw [Hid, ← hla.out, List.length_append]; rfl
        have hKa : Hid (KeyAt lo w v.ownBlock Wa (.slice (some ⟨ga, 0, none⟩) la.length capa) la) := by
          rw [Hid, ← hna.out, ← hla.out]
          exact (hK.out.alloc (.cells #[.int .u8 (c : Int)] 5)).app rfl (by simp [Lib.byteCells, hbc]) ho hgr hat
        rw [hna.out]
        clear ho hgr hat hlta
        have hK2 : Hid (KeyAt lo w v.ownBlock Wa (.slice (some ⟨ga, 0, none⟩) la.length capa) (l ++ (be 8 u).take (1 + 1))) := by
          have e : l ++ (be 8 u).take (1 + 1) = la := by rw [hnx.out, ← List.append_assoc, hli.out, ← hla.out]
          rw [Hid, e]
          exact hKa.out
        clear hq hbc
        go_wp2_with fail
        go_roundw
        case rel => exact ⟨1 + 1, by omega, by go_num, hK2⟩
        case measure => simp [intOf]
      · have hnx := hid_e (be_next (i := 2) (D := 1099511627776) hul.out (by decide) (by decide))
        obtain ⟨c, hc⟩ : ∃ c : Nat, Hid (u / 1099511627776 % 256 = c) := ⟨_, hid_e rfl⟩
        rw [hc.out] at hnx
        have hq : (u : Int) / 1099511627776 % 256 = (c : Int) := by have h1 := hc.out; omega
        have hc256 : c < 256 := by rw [← hc.out]; omega
        obtain ⟨b, hb0⟩ : ∃ z, Hid (UInt8.ofNat c = z) := ⟨_, hid_e rfl⟩
        have hbc : ((b.toNat : Nat) : Int) = (c : Int) := by rw [← hb0.out, UInt8.toNat_ofNat']; omega
        rw [hb0.out] at hnx
        go_wp2_with (at_builtin; refine wpList_append_lies _ rfl _ _ 26 rfl lo 5 i5 _ 1 1 Tryd.underlying26 hi5 hz0 hz1 hz2 rfl (by decide) _ li.length _ rfl (hK.out.own.alloc _) ⟨wr.heap.size, 0, none⟩ 1 1 [.int .u8 (c : Int)] rfl rfl (World.news_of_block (heap_alloc_new wr (.cells #[.int .u8 (c : Int)] 5))) (fun u hu => by obtain rfl := List.mem_singleton.1 hu; rfl) (by decide) (hbd 1 (by decide)).1 (hbd 1 (by decide)).2 (by rw [World.size_alloc]; have := hK.out.grown.size; omega) _ rfl ?_; intro ga capa Wa ho hgr hat hlta)
        obtain ⟨la, hla⟩ : ∃ z, Hid (li ++ [b] = z) := ⟨_, hid_e rfl⟩
        have hna : Hid (li.length + 1 = la.length) := by rw [Hid, ← hla.out, List.length_append]; rfl
        have hKa : Hid (KeyAt lo w v.ownBlock Wa (.slice (some ⟨ga, 0, none⟩) la.length capa) la) := by
          rw [Hid, ← hna.out, ← hla.out]
          exact (hK.out.alloc (.cells #[.int .u8 (c : Int)] 5)).app rfl (by simp [Lib.byteCells, hbc]) ho hgr hat
        rw [hna.out]
        clear ho hgr hat hlta
        have hK2 : Hid (KeyAt lo w v.ownBlock Wa (.slice (some ⟨ga, 0, none⟩) la.length capa) (l ++ (be 8 u).take (2 + 1))) := by
          have e : l ++ (be 8 u).take (2 + 1) = la := by rw [hnx.out, ← List.append_assoc, hli.out, ← hla.out]
          rw [Hid, e]
          exact hKa.out
        clear hq hbc
        go_wp2_with fail
        go_roundw
        case rel => exact ⟨2 + 1, by omega, by go_num, hK2⟩
        case measure => simp [intOf]
      · have hnx := hid_e (be_next (i := 3) (D := 4294967296) hul.out (by decide) (by decide))
        obtain ⟨c, hc⟩ : ∃ c : Nat, Hid (u / 4294967296 % 256 = c) := ⟨_, hid_e rfl⟩
        rw [hc.out] at hnx
        have hq : (u : Int) / 4294967296 % 256 = (c : Int) := by have h1 := hc.out; omega
        have hc256 : c < 256 := by rw [← hc.out]; omega
        obtain ⟨b, hb0⟩ : ∃ z, Hid (UInt8.ofNat c = z) := ⟨_, hid_e rfl⟩
        have hbc : ((b.toNat : Nat) : Int) = (c : Int) := by rw [← hb0.out, UInt8.toNat_ofNat']; omega
        rw [hb0.out] at hnx
        go_wp2_with (at_builtin; refine wpList_append_lies _ rfl _ _ 26 rfl lo 5 i5 _ 1 1 Tryd.underlying26 hi5 hz0 hz1 hz2 rfl (by decide) _ li.length _ rfl (hK.out.own.alloc _) ⟨wr.heap.size, 0, none⟩ 1 1 [.int .u8 (c : Int)] rfl rfl (World.news_of_block (heap_alloc_new wr (.cells #[.int .u8 (c : Int)] 5))) (fun u hu => by obtain rfl := List.mem_singleton.1 hu; rfl) (by decide) (hbd 1 (by decide)).1 (hbd 1 (by decide)).2 (by rw [World.size_alloc]; have := hK.out.grown.size; omega) _ rfl ?_; intro ga capa Wa ho hgr hat hlta)
        obtain ⟨la, hla⟩ : ∃ z, Hid (li ++ [b] = z) := ⟨_, hid_e rfl⟩
        have hna : Hid (li.length + 1 = la.length) := by rw [Hid, ← hla.out, List.length_append]; rfl
        have hKa : Hid (KeyAt lo w v.ownBlock Wa (.slice (some ⟨ga, 0, none⟩) la.length capa) la) := by
          rw [Hid, ← hna.out, ← hla.out]
          exact (hK.out.alloc (.cells #[.int .u8 (c : Int)] 5)).app rfl (by simp [Lib.byteCells, hbc]) ho hgr hat
        rw [hna.out]
        clear ho hgr hat hlta
        have hK2 : Hid (KeyAt lo w v.ownBlock Wa (.slice (some ⟨ga, 0, none⟩) la.length capa) (l ++ (be 8 u).take (3 + 1))) := by
          have e : l ++ (be 8 u).take (3 + 1) = la := by rw [hnx.out, ← List.append_assoc, hli.out, ← hla.out]
          rw [Hid, e]
          exact hKa.out
        clear hq hbc
        go_wp2_with fail
        go_roundw
        case rel => exact ⟨3 + 1, by omega, by go_num, hK2⟩
        case measure => simp [intOf]
      · have hnx := hid_e (be_next (i := 4) (D := 16777216) hul.out (by decide) (by decide))
        obtain ⟨c, hc⟩ : ∃ c : Nat, Hid (u / 16777216 % 256 = c) := ⟨_, hid_e rfl⟩
        rw [hc.out] at hnx
        have hq : (u : Int) / 16777216 % 256 = (c : Int) := by have h1 := hc.out; omega
        have hc256 : c < 256 := by rw [← hc.out]; omega
        obtain ⟨b, hb0⟩ : ∃ z, Hid (UInt8.ofNat c = z) := ⟨_, hid_e rfl⟩
        have hbc : ((b.toNat : Nat) : Int) = (c : Int) := by rw [← hb0.out, UInt8.toNat_ofNat']; omega
        rw [hb0.out] at hnx
        go_wp2_with (at_builtin; refine wpList_append_lies _ rfl _ _ 26 rfl lo 5 i5 _ 1 1 Tryd.underlying26 hi5 hz0 hz1 hz2 rfl (by decide) _ li.length _ rfl (hK.out.own.alloc _) ⟨wr.heap.size, 0, none⟩ 1 1 [.int .u8 (c : Int)] rfl rfl (World.news_of_block (heap_alloc_new wr (.cells #[.int .u8 (c : Int)] 5))) (fun u hu => by obtain rfl := List.mem_singleton.1 hu; rfl) (by decide) (hbd 1 (by decide)).1 (hbd 1 (by decide)).2 (by rw [World.size_alloc]; have := hK.out.grown.size; omega) _ rfl ?_; intro ga capa Wa ho hgr hat hlta)
        obtain ⟨la, hla⟩ : ∃ z, Hid (li ++ [b] = z) := ⟨_, hid_e rfl⟩
        have hna : Hid (li.length + 1 = la.length) := by rw [Hid, ← hla.out, List.length_append]; rfl
        have hKa : Hid (KeyAt lo w v.ownBlock Wa (.slice (some ⟨ga, 0, none⟩) la.length capa) la) := by
          rw [Hid, ← hna.out, ← hla.out]
          exact (hK.out.alloc (.cells #[.int .u8 (c : Int)] 5)).app rfl (by simp [Lib.byteCells, hbc]) ho hgr hat
        rw [hna.out]
        clear ho hgr hat hlta
        have hK2 : Hid (KeyAt lo w v.ownBlock Wa (.slice (some ⟨ga, 0, none⟩) la.length capa) (l ++ (be 8 u).take (4 + 1))) := by
          have e : l ++ (be 8 u).take (4 + 1) = la := by rw [hnx.out, ← List.append_assoc, hli.out, ← hla.out]
          rw [Hid, e]
          exact hKa.out
        clear hq hbc
        go_wp2_with fail
        go_roundw
        case rel => exact ⟨4 + 1, by omega, by go_num, hK2⟩
        case measure => simp [intOf]
      · have hnx := hid_e (be_next (i := 5) (D := 65536) hul.out (by decide) (by decide))
        obtain ⟨c, hc⟩ : ∃ c : Nat, Hid (u / 65536 % 256 = c) := ⟨_, hid_e rfl⟩
        rw [hc.out] at hnx
        have hq : (u : Int) / 65536 % 256 = (c : Int) := by have h1 := hc.out; omega
        have hc256 : c < 256 := by rw [← hc.out]; omega
        obtain ⟨b, hb0⟩ : ∃ z, Hid (UInt8.ofNat c = z) := ⟨_, hid_e rfl⟩
        have hbc : ((b.toNat : Nat) : Int) = (c : Int) := by rw [← hb0.out, UInt8.toNat_ofNat']; omega
        rw [hb0.out] at hnx
        go_wp2_with (at_builtin; refine wpList_append_lies _ rfl _ _ 26 rfl lo 5 i5 _ 1 1 Tryd.underlying26 hi5 hz0 hz1 hz2 rfl (by decide) _ li.length _ rfl (hK.out.own.alloc _) ⟨wr.heap.size, 0, none⟩ 1 1 [.int .u8 (c : Int)] rfl rfl (World.news_of_block (heap_alloc_new wr (.cells #[.int .u8 (c : Int)] 5))) (fun u hu => by obtain rfl := List.mem_singleton.1 hu; rfl) (by decide) (hbd 1 (by decide)).1 (hbd 1 (by decide)).2 (by rw [World.size_alloc]; have := hK.out.grown.size; omega) _ rfl ?_; intro ga capa Wa ho hgr hat hlta)
        obtain ⟨la, hla⟩ : ∃ z, Hid (li ++ [b] = z) := ⟨_, hid_e rfl⟩
        have hna : Hid (li.length + 1 = la.length) := by rw [Hid, ← hla.out, List.length_append]; rfl
        have hKa : Hid (KeyAt lo w v.ownBlock Wa (.slice (some ⟨ga, 0, none⟩) la.length capa) la) := by
          rw [Hid, ← hna.out, ← hla.out]
          exact (hK.out.alloc (.cells #[.int .u8 (c : Int)] 5)).app rfl (by simp [Lib.byteCells, hbc]) ho hgr hat
        rw [hna.out]
        clear ho hgr hat hlta
        have hK2 : Hid (KeyAt lo w v.ownBlock Wa (.slice (some ⟨ga, 0, none⟩) la.length capa) (l ++ (be 8 u).take (5 + 1))) := by
          have e : l ++ (be 8 u).take (5 + 1) = la := by rw [hnx.out, ← List.append_assoc, hli.out, ← hla.out]
          rw [Hid, e]
          exact hKa.out
        clear hq hbc
        go_wp2_with fail
        go_roundw
        case rel => exact ⟨5 + 1, by omega, by go_num, hK2⟩
        case measure => simp [intOf]
      · have hnx := hid_e (be_next (i := 6) (D := 256) hul.out (by decide) (by decide))
        obtain ⟨c, hc⟩ : ∃ c : Nat, Hid (u / 256 % 256 = c) := ⟨_, hid_e rfl⟩
        rw [hc.out] at hnx
        have hq : (u : Int) / 256 % 256 = (c : Int) := by have h1 := hc.out; omega
        have hc256 : c < 256 := by rw [← hc.out]; omega
        obtain ⟨b, hb0⟩ : ∃ z, Hid (UInt8.ofNat c = z) := ⟨_, hid_e rfl⟩
        have hbc : ((b.toNat : Nat) : Int) = (c : Int) := by rw [← hb0.out, UInt8.toNat_ofNat']; omega
        rw [hb0.out] at hnx
        go_wp2_with (at_builtin; refine wpList_append_lies _ rfl _ _ 26 rfl lo 5 i5 _ 1 1 Tryd.underlying26 hi5 hz0 hz1 hz2 rfl (by decide) _ li.length _ rfl (hK.out.own.alloc _) ⟨wr.heap.size, 0, none⟩ 1 1 [.int .u8 (c : Int)] rfl rfl (World.news_of_block (heap_alloc_new wr (.cells #[.int .u8 (c : Int)] 5))) (fun u hu => by obtain rfl := List.mem_singleton.1 hu; rfl) (by decide) (hbd 1 (by decide)).1 (hbd 1 (by decide)).2 (by rw [World.size_alloc]; have := hK.out.grown.size; omega) _ rfl ?_; intro ga capa Wa ho hgr hat hlta)
        obtain ⟨la, hla⟩ : ∃ z, Hid (li ++ [b] = z) := ⟨_, hid_e rfl⟩
        have hna : Hid (li.length + 1 = la.length) := by rw [Hid, ← hla.out, List.length_append]; rfl
        have hKa : Hid (KeyAt lo w v.ownBlock Wa (.slice (some ⟨ga, 0, none⟩) la.length capa) la) := by
          rw [Hid, ← hna.out, ← hla.out]
          exact (hK.out.alloc (.cells #[.int .u8 (c : Int)] 5)).app rfl (by simp [Lib.byteCells, hbc]) ho hgr hat
        rw [hna.out]
        clear ho hgr hat hlta
        have hK2 : Hid (KeyAt lo w v.ownBlock Wa (.slice (some ⟨ga, 0, none⟩) la.length capa) (l ++ (be 8 u).take (6 + 1))) := by
          have e : l ++ (be 8 u).take (6 + 1) = la := by rw [hnx.out, ← List.append_assoc, hli.out, ← hla.out]
          rw [Hid, e]
          exact hKa.out
        clear hq hbc
        go_wp2_with fail
        go_roundw
        case rel => exact ⟨6 + 1, by omega, by go_num, hK2⟩
        case measure => simp [intOf]
      · have hnx := hid_e (be_next (i := 7) (D := 1) hul.out (by decide) (by decide))
        obtain ⟨c, hc⟩ : ∃ c : Nat, Hid (u / 1 % 256 = c) := ⟨_, hid_e rfl⟩
        rw [hc.out] at hnx
        have hq : (u : Int) % 256 = (c : Int) := by have h1 := hc.out; omega
        have hc256 : c < 256 := by rw [← hc.out]; omega
        obtain ⟨b, hb0⟩ : ∃ z, Hid (UInt8.ofNat c = z) := ⟨_, hid_e rfl⟩
        have hbc : ((b.toNat : Nat) : Int) = (c : Int) := by rw [← hb0.out, UInt8.toNat_ofNat']; omega
        rw [hb0.out] at hnx
        go_wp2_with (at_builtin; refine wpList_append_lies _ rfl _ _ 26 rfl lo 5 i5 _ 1 1 Tryd.underlying26 hi5 hz0 hz1 hz2 rfl (by decide) _ li.length _ rfl (hK.out.own.alloc _) ⟨wr.heap.size, 0, none⟩ 1 1 [.int .u8 (c : Int)] rfl rfl (World.news_of_block (heap_alloc_new wr (.cells #[.int .u8 (c : Int)] 5))) (fun u hu => by obtain rfl := List.mem_singleton.1 hu; rfl) (by decide) (hbd 1 (by decide)).1 (hbd 1 (by decide)).2 (by rw [World.size_alloc]; have := hK.out.grown.size; omega) _ rfl ?_; intro ga capa Wa ho hgr hat hlta)
        obtain ⟨la, hla⟩ : ∃ z, Hid (li ++ [b] = z) := ⟨_, hid_e rfl⟩
        have hna : Hid (li.length + 1 = la.length) := by rw [Hid, ← hla.out, List.length_append]; rfl
        have hKa : Hid (KeyAt lo w v.ownBlock Wa (.slice (some ⟨ga, 0, none⟩) la.length capa) la) := by
          rw [Hid, ← hna.out, ← hla.out]
          exact (hK.out.alloc (.cells #[.int .u8 (c : Int)] 5)).app rfl (by simp [Lib.byteCells, hbc]) ho hgr hat
        rw [hna.out]
        clear ho hgr hat hlta
        have hK2 : Hid (KeyAt lo w v.ownBlock Wa (.slice (some ⟨ga, 0, none⟩) la.length capa) (l ++ (be 8 u).take (7 + 1))) := by
          have e : l ++ (be 8 u).take (7 + 1) = la := by rw [hnx.out, ← List.append_assoc, hli.out, ← hla.out]
          rw [Hid, e]
          exact hKa.out
        clear hq hbc
        go_wp2_with fail
        go_roundw
        case rel => exact ⟨7 + 1, by omega, by go_num, hK2⟩
        case measure => simp [intOf]
    · obtain rfl : i = 8 := by omega
      have e : l ++ be 8 u = li := by rw [← hli.out, List.take_of_length_le (by rw [be_len]; exact Nat.le_refl _)]
      have hK2 : Hid (KeyAt lo w v.ownBlock wr u0 (l ++ be 8 u)) := by rw [Hid, e]; exact hK.out
      go_wp2_with fail
      go_ret
      exact ⟨_, rfl, hK2.out⟩
end Go.Proofs.YtjmneiepcbpdpaaDoor
