import Derived.Test.YtnccaidlcaeeaaaGreatDoorPG
import Derived.Test.YtnccaidlcaeeaaaGreatDoorU1
import Derived.Test.YtnccaidlcaeeaaaGreatDoorX6
/-! The document's reader of texts: a text. -/
namespace Go.Proofs.YtnccaidlcaeeaaaGreatDoor.Tree
open Go Go.RowKit

theorem txR_over (T : ByteArray) (acc : List UInt8) : txR T acc T.size = .bad 3 T.size := by
  rw [txR_step T acc T.size (Nat.le_refl _), plR_end T T.size (by omega)]
theorem txR_low (T : ByteArray) (acc : List UInt8) (q : Nat) (hq : q < T.size) (h : (byteAt T q).toNat < 32) : txR T acc q = .bad 11 q := by
  rw [txR_step T acc q (by omega), plR_step T q hq, dec_asc T q (by omega)]
  simp only
  rw [if_neg (by omega), if_pos h]
theorem txR_escbad (T : ByteArray) (acc : List UInt8) (n e p : Nat) (hn : n < T.size) (h : byteAt T n = 92) (he : escR T n = .bad e p) : txR T acc n = .bad e p := by
  have h92 : (byteAt T n).toNat = 92 := by rw [h]; rfl
  rw [txR_step T acc n (by omega), plR_step T n hn, dec_asc T n (by omega), h92]
  simp only
  rw [if_pos (by simp)]
  simp only
  rw [if_neg (by rw [h]; decide), he]
/-- A text under way. -/
structure XAt (w : World) (r : Nat) (T : ByteArray) (q e pl : Int) (ov : Value) (acc : List UInt8) (wr : World) : Prop where
  at_ : RT wr r T q e pl
  fr : FrP (· = r) w wr
  own : wr.ownsRow w.heap.size 5 1 ov acc.length (Lib.byteCells acc)
theorem XAt.next {w wr w' : World} {r : Nat} {T : ByteArray} {q e pl q' e' pl' : Int} {ov : Value} {acc : List UInt8} (h : XAt w r T q e pl ov acc wr) (hr : r < w.heap.size) (hA : RT w' r T q' e' pl') (hF : FrP (· = r) wr w') : XAt w r T q' e' pl' ov acc w' :=
  ⟨hA, h.fr.trans hF, ownsRow_keep h.own (fun j hj => hF.block j (ownsRow_ge h.own hj).2 (by have := (ownsRow_ge h.own hj).1; omega))⟩
theorem XAt.app {w wr w' : World} {r : Nat} {T : ByteArray} {q e pl : Int} {ov kv : Value} {acc acc' : List UInt8} (h : XAt w r T q e pl ov acc wr) (hr : r < w.heap.size) (hgrow : wr.grownBy w' ov.ownBlock) (hown : w'.ownsRow w.heap.size 5 1 kv acc'.length (Lib.byteCells acc')) : XAt w r T q e pl kv acc' w' :=
  ⟨(hgrow.block r h.at_.lt (fun e => by have := (ownsRow_ge h.own e.symm).1; omega)).trans h.at_, h.fr.grown hgrow (fun g hg => .inr (ownsRow_ge h.own hg).1), hown⟩
set_option maxHeartbeats 8000000 in
set_option maxRecDepth 100000 in
theorem text_code (r : Nat) (T : ByteArray) (q0 : Nat) (w : World) (hT : T.size ≤ 65536) (h : Hid (RT w r T (q0 : Int) 0 0)) (hq0 : q0 < T.size) :
    Calls Tryz.prog 37 #[.pointer (some ⟨r, 0, none⟩)] w fun x w' => (∃ s : ByteArray, x = .returned (.string s) ∧ ∀ v k, textR T q0 = .ok v k → s = v) ∧ RSt w' r T (textR T q0) ∧ FrP (· = r) w w' := by
  obtain ⟨R, hR⟩ : ∃ R, Hid (textR T q0 = R) := ⟨_, hid_e rfl⟩
  rw [hR.out]
  unfold textR at hR
  have hrl := h.out.lt
  obtain ⟨y0, y1, y2, y3, yf⟩ := h.out.cells
  have yf1 := yf 1
  clear yf y0 y2 y3
  have hQ9 : (q0 : Int) ≤ 70000 := by omega
  have hR1 := h.out.set1 ((q0 : Int) + 1)
  have hF1 : FrP (· = r) w (w.setCell ⟨r, 1, none⟩ (.int .i64 ((q0 : Int) + 1))) := (FrP.refl (· = r) w).set _ _ (.inl rfl)
  go_enter Tryz.func37, Tryz.ntmps37
  go_wp2_with fail
  clear y1 yf1
  rw [show (q0 : Int) + 1 = ((q0 + 1 : Nat) : Int) by omega] at hR1 hF1 ⊢
  generalize w.setCell ⟨r, 1, none⟩ (.int .i64 ((q0 + 1 : Nat) : Int)) = X1 at hR1 hF1 ⊢
  go_loopg [3] (T.size + 2) (fun gk ov wr => ∃ acc : List UInt8, ((∃ q : Nat, q ≤ T.size ∧ T.size - q + 1 < gk ∧ acc.length ≤ q ∧ Hid (XAt w r T (q : Int) 0 0 ov acc wr) ∧ Hid (txR T acc q = R)) ∨ (∃ (z : Int) (e p : Nat), e ≠ 0 ∧ Hid (R = .bad e p) ∧ Hid (XAt w r T z (e : Int) (p : Int) ov acc wr))))
  case atStart => exact ⟨[], .inl ⟨q0 + 1, by omega, by omega, Nat.zero_le _, hid_e ⟨hR1, hF1, World.ownsRow_nil _ _ _ _⟩, hR⟩⟩
  case round =>
    clear hR1 hF1 hR h hQ9
    obtain ⟨acc, hst⟩ := hrel
    rcases hst with ⟨q, hq, hgk, hacc, hX, hK⟩ | ⟨z, e, p, he, hRe, hX⟩
    rotate_left
    · have hn := hid_e (next_dead r T z (p : Int) (e : Int) wr hX.out.at_ (by omega))
      go_wp2_with fail
      go_fit hn.out
      clear hn
      rintro e1 w1 ⟨rfl, hw⟩
      replace hw := hw.symm
      subst hw
      go_wp2_with fail
      go_ret
      rw [hRe.out]
      exact ⟨⟨_, rfl, fun v k e => by cases e⟩, ⟨he, z, hX.out.at_⟩, hX.out.fr⟩
    obtain ⟨g', rfl⟩ : ∃ g', gk = g' + 1 := ⟨gk - 1, by omega⟩
    by_cases hs : q < T.size
    rotate_left
    · obtain rfl : q = T.size := by omega
      have hRe : Hid (R = .bad 3 T.size) := by rw [Hid, ← hK.out]; exact txR_over T acc
      have hn := hid_e (next_short r T wr hX.out.at_)
      go_wp2_with fail
      go_fit hn.out
      clear hn
      rintro e w1 ⟨rfl, hS1, hF1⟩
      go_wp2_with fail
      go_ret
      rw [hRe.out]
      exact ⟨⟨_, rfl, fun v k e => by cases e⟩, ⟨by decide, _, hS1⟩, hX.out.fr.trans hF1⟩
    obtain ⟨ova, ovc, rfl⟩ := ownsRow_slice hX.out.own
    have hn := hid_e (next_byte r T q wr hX.out.at_ hs)
    go_wp2_with fail
    go_fit hn.out
    clear hn
    rintro e w1 ⟨rfl, hS1, hF1⟩
    have hX1 := hid_e (hX.out.next hrl hS1 hF1)
    clear hX hS1 hF1
    have hq9 : (q : Int) ≤ 70000 := by omega
    obtain ⟨z, hz⟩ : ∃ z : Int, Hid (((byteAt T q).toNat : Int) = z) := ⟨_, hid_e rfl⟩
    rw [hz.out]
    by_cases h34 : byteAt T q = 34
    · have k1 : (z == 34) = true := by rw [← hz.out, h34]; rfl
      have hRe : Hid (R = .ok ⟨acc.toArray⟩ (q + 1)) := by rw [Hid, ← hK.out]; exact txR_end T acc q hs h34
      replace h34 := hid_e h34
      obtain ⟨y0, y1, y2, y3, yf⟩ := hX1.out.at_.cells
      have yf1 := yf 1
      clear yf y0 y2 y3
      have hR2 := hX1.out.at_.set1 ((q : Int) + 1)
      have hX2 := hid_e (hX1.out.next hrl hR2 ((FrP.refl (· = r) w1).set _ _ (.inl rfl)))
      have hcv := own_conv hX2.out.own
      obtain ⟨S, hS⟩ : ∃ S : ByteArray, Hid ((⟨acc.toArray⟩ : ByteArray) = S) := ⟨_, hid_e rfl⟩
      rw [hS.out] at hcv
      go_upto_region 16 with fail
      clear y1 yf1
      generalize w1.setCell ⟨r, 1, none⟩ (.int .i64 ((q : Int) + 1)) = W2 at hX2 hR2 hcv ⊢
      go_wp2_with fail
      go_ret
      rw [hRe.out]
      exact ⟨⟨S, by simp, fun v k e => by rw [← (Res.ok.inj e).1]; exact hS.out.symm⟩, by rw [RSt, show ((q + 1 : Nat) : Int) = (q : Int) + 1 by omega]; exact hX2.out.at_, hX2.out.fr⟩
    have k1 : (z == 34) = false := by rw [← hz.out]; exact byte_ne h34
    by_cases hlow : (byteAt T q).toNat < 32
    · have k2 : z < 32 := by rw [← hz.out]; omega
      have hRe : Hid (R = .bad 11 q) := by rw [Hid, ← hK.out]; exact txR_low T acc q hs hlow
      have hfl := hid_e (fail_code r T (q : Int) (q : Int) 11 w1 hX1.out.at_)
      obtain ⟨-, y1, -, -, -⟩ := hX1.out.at_.cells
      go_wp2_with fail
      go_fit hfl.out
      clear y1
      rintro e w2 ⟨rfl, hS2, hF2⟩
      have hX2 := hid_e (hX1.out.next hrl hS2 hF2)
      go_wp2_with fail
      go_roundg g'
      case measure => omega
      case rel => exact ⟨acc, .inr ⟨_, 11, q, by decide, hRe, hX2⟩⟩
    have k2 : ¬ z < 32 := by rw [← hz.out]; omega
    by_cases h92 : byteAt T q = 92
    · have k3 : (z == 92) = true := by rw [← hz.out, h92]; rfl
      have hes := hid_e (escape_code r T q w1 hT (hid_e hX1.out.at_) hs)
      obtain ⟨E, hE⟩ : ∃ E, Hid (escR T q = E) := ⟨_, hid_e rfl⟩
      rw [hE.out] at hes
      clear hlow
      replace h92 := hid_e h92
      replace h34 := hid_e h34
      go_wp2_with fail
      go_fit hes.out
      clear hes
      rintro e w2 ⟨⟨sx, rfl, hs4, hsx⟩, hS2, hF2⟩
      cases E with
      | bad e p =>
        obtain ⟨he, zd, hRd⟩ := hS2
        have hRe : Hid (R = .bad e p) := by rw [Hid, ← hK.out]; exact txR_escbad T acc q e p hs h92.out hE.out
        have hX2 := hid_e (hX1.out.next hrl hRd hF2)
        clear hsx hRd
        go_wp2_with (at_builtin; refine list_app_str _ rfl _ _ rfl w.heap.size _ acc rfl hX2.out.own sx rfl (by omega) hX2.out.fr.size ?_; intro kv W3 ho hgr; have hX3 := hid_e (hX2.out.app hrl hgr ho); clear ho hgr)
        go_roundg g'
        case measure => omega
        case rel => exact ⟨acc ++ sx.data.toList, .inr ⟨zd, e, p, he, hRe, hX3⟩⟩
      | ok c m =>
        obtain ⟨n1, n2, n3, n4⟩ := escR_ok hE.out
        obtain ⟨l1, l2⟩ := enc_len c n3
        have hsx' := hsx c m rfl
        subst hsx'
        replace hS2 : RT w2 r T (m : Int) 0 0 := hS2
        have hX2 := hid_e (hX1.out.next hrl hS2 hF2)
        have hK2 : Hid (txR T (acc ++ encB c) m = R) := by rw [Hid, ← hK.out]; exact (txR_esc T acc q c m hs h92.out hE.out).symm
        have hszc : (⟨(encB c).toArray⟩ : ByteArray).size = (encB c).length := by show (encB c).toArray.size = _; rw [List.size_toArray]
        have hdat : (⟨(encB c).toArray⟩ : ByteArray).data.toList = encB c := rfl
        obtain ⟨S, hS⟩ : ∃ S : ByteArray, Hid ((⟨(encB c).toArray⟩ : ByteArray) = S) := ⟨_, hid_e rfl⟩
        rw [hS.out] at hszc hdat ⊢
        clear hsx hS2
        have hb4 : S.size ≤ 4 := by omega
        replace hszc := hid_e hszc
        replace hdat := hid_e hdat
        go_wp2_with (at_builtin; refine list_app_str _ rfl _ _ rfl w.heap.size _ acc rfl hX2.out.own S rfl (by omega) hX2.out.fr.size ?_; intro kv W3 ho hgr; rw [hdat.out] at ho; have hX3 := hid_e (hX2.out.app hrl hgr ho); clear ho hgr)
        go_roundg g'
        case measure => omega
        case rel =>
          have hlc : acc.length + (encB c).length ≤ m := by
            rcases n4 with h | h
            · have := l2 h; omega
            · omega
          exact ⟨acc ++ encB c, .inl ⟨m, n2, by omega, by rw [List.length_append]; omega, hX3, hK2⟩⟩
    have k3 : (z == 92) = false := by rw [← hz.out]; exact byte_ne h92
    have hch := hid_e (character_code (T.extract q T.size) (by rw [Lib.tail_size]; omega) (by rw [Lib.tail_size]; omega))
    have hcs := hid_e (fun zz (hh : CharIs (T.extract q T.size) zz) => char_steps hs h34 h92 (by omega) hh)
    replace h34 := hid_e h34
    replace h92 := hid_e h92
    clear hlow
    go_upto_region 6 with fail
    replace hX1 := hid_e (XAt.next (w' := w1.drew) hX1.out hrl hX1.out.at_ ((FrP.refl (· = r) w1).drew))
    have hA1 := hX1.out.at_
    generalize hXX : w1.drew = X at hX1 hA1
    refine wp_region_noPanic ?_
    refine Until.wp_region_U (fun W => RT W r T (q : Int) 0 0) (fun _ => True) 99 (by kernel_rfl) ?_
    rw [hXX]
    clear hXX
    have i1 : (q : Int) ≤ (T.size : Int) := by omega
    have i0 : (0 : Int) ≤ (q : Int) := by omega
    refine Until.wpU_pure (i := 0) (oi := { dst := some 21, op := Op.move (Operand.tmp 0), type := 46, pos := "ref.go:266", after := #[], guard := none }) (v := .pointer (some ⟨r, 0, none⟩)) rfl (by kernel_rfl) (by kernel_rfl) (by kernel_rfl) (by kernel_rfl) (by kernel_rfl) (fun _ _ _ h => h) (hA1) (fun _ => trivial) (by rfl) (by intro w'; go_simp) ?_
    try simp only [Act.put, List.setIfInBounds_toArray, List.set_cons_zero, List.set_cons_succ]
    refine Until.wpU_pure (i := 1) (oi := { dst := some 22, op := Op.nilCheck (Operand.tmp 21), type := 0, pos := "ref.go:266", after := #[{ on := 0, ground := Ground.data }], guard := none }) (v := .pointer (some ⟨r, 0, none⟩)) rfl (by kernel_rfl) (by kernel_rfl) (by kernel_rfl) (by kernel_rfl) (by kernel_rfl) (fun _ _ _ h => h) (hA1) (fun _ => trivial) (by rfl) (by intro w'; go_simp) ?_
    try simp only [Act.put, List.setIfInBounds_toArray, List.set_cons_zero, List.set_cons_succ]
    refine Until.wpU_pure (i := 2) (oi := { dst := some 23, op := Op.fieldAddr 48 (Operand.tmp 22) 0, type := 0, pos := "ref.go:266", after := #[{ on := 1, ground := Ground.data }], guard := none }) (v := .pointer (some ⟨r, 0, none⟩)) rfl (by kernel_rfl) (by kernel_rfl) (by kernel_rfl) (by kernel_rfl) (by kernel_rfl) (fun _ _ _ h => h) (hA1) (fun _ => trivial) (by rfl) (by intro w'; go_simp) ?_
    try simp only [Act.put, List.setIfInBounds_toArray, List.set_cons_zero, List.set_cons_succ]
    refine Until.wpU_load0 (i := 3) (oi := { dst := some 24, op := Op.load 9 (Operand.tmp 23), type := 9, pos := "ref.go:266", after := #[{ on := 2, ground := Ground.data }], guard := none }) (v := .string T) rfl (by kernel_rfl) (by kernel_rfl) (by kernel_rfl) (by kernel_rfl) (by kernel_rfl) (fun _ _ _ h => h) (hA1) (fun _ => trivial) (by rfl) (by intro w' hw'; obtain ⟨t0, t1, t2, t3, -⟩ := RT.cells hw'; go_simp) ?_
    try simp only [Act.put, List.setIfInBounds_toArray, List.set_cons_zero, List.set_cons_succ]
    refine Until.wpU_pure (i := 4) (oi := { dst := some 25, op := Op.move (Operand.tmp 0), type := 46, pos := "ref.go:266", after := #[], guard := none }) (v := .pointer (some ⟨r, 0, none⟩)) rfl (by kernel_rfl) (by kernel_rfl) (by kernel_rfl) (by kernel_rfl) (by kernel_rfl) (fun _ _ _ h => h) (hA1) (fun _ => trivial) (by rfl) (by intro w'; go_simp) ?_
    try simp only [Act.put, List.setIfInBounds_toArray, List.set_cons_zero, List.set_cons_succ]
    refine Until.wpU_pure (i := 5) (oi := { dst := some 26, op := Op.nilCheck (Operand.tmp 25), type := 0, pos := "ref.go:266", after := #[{ on := 4, ground := Ground.data }], guard := none }) (v := .pointer (some ⟨r, 0, none⟩)) rfl (by kernel_rfl) (by kernel_rfl) (by kernel_rfl) (by kernel_rfl) (by kernel_rfl) (fun _ _ _ h => h) (hA1) (fun _ => trivial) (by rfl) (by intro w'; go_simp) ?_
    try simp only [Act.put, List.setIfInBounds_toArray, List.set_cons_zero, List.set_cons_succ]
    refine Until.wpU_pure (i := 6) (oi := { dst := some 27, op := Op.fieldAddr 48 (Operand.tmp 26) 1, type := 0, pos := "ref.go:266", after := #[{ on := 5, ground := Ground.data }], guard := none }) (v := .pointer (some ⟨r, 1, none⟩)) rfl (by kernel_rfl) (by kernel_rfl) (by kernel_rfl) (by kernel_rfl) (by kernel_rfl) (fun _ _ _ h => h) (hA1) (fun _ => trivial) (by rfl) (by intro w'; go_simp) ?_
    try simp only [Act.put, List.setIfInBounds_toArray, List.set_cons_zero, List.set_cons_succ]
    refine Until.wpU_load0 (i := 7) (oi := { dst := some 28, op := Op.load 3 (Operand.tmp 27), type := 3, pos := "ref.go:266", after := #[{ on := 6, ground := Ground.data }], guard := none }) (v := .int .i64 (q : Int)) rfl (by kernel_rfl) (by kernel_rfl) (by kernel_rfl) (by kernel_rfl) (by kernel_rfl) (fun _ _ _ h => h) (hA1) (fun _ => trivial) (by rfl) (by intro w' hw'; obtain ⟨t0, t1, t2, t3, -⟩ := RT.cells hw'; go_simp) ?_
    try simp only [Act.put, List.setIfInBounds_toArray, List.set_cons_zero, List.set_cons_succ]
    refine Until.wpU_pure (i := 8) (oi := { dst := some 29, op := Op.slice 9 (Operand.tmp 24) (some (Operand.tmp 28)) none none, type := 9, pos := "ref.go:266", after := #[{ on := 3, ground := Ground.data }, { on := 7, ground := Ground.data }], guard := none }) (v := .string (T.extract q T.size)) rfl (by kernel_rfl) (by kernel_rfl) (by kernel_rfl) (by kernel_rfl) (by kernel_rfl) (fun _ _ _ h => h) (hA1) (fun _ => trivial) (by rfl) (by intro w'; go_simp) ?_
    try simp only [Act.put, List.setIfInBounds_toArray, List.set_cons_zero, List.set_cons_succ]
    refine Until.wpU_ready (rs := [9]) (by kernel_rfl) (by simp) ?_
    refine (Until.AllU.cons (o := { dst := some 30, op := Op.call { callee := Callee.value (Operand.func 55), args := #[Operand.tmp 29], argTypes := #[9] }, type := 3, pos := "ref.go:266", after := #[{ on := 8, ground := Ground.data }], guard := none }) rfl (fun K hKK => ?_) Until.AllU.nil)
    go_simp
    refine (hch.out X).mono ?_
    rintro e2 w2 ⟨⟨zz, rfl, hzz⟩, hw2⟩
    replace hw2 := hw2.symm
    subst hw2
    refine hKK.out _ _ hA1 (fun _ => trivial) ?_
    clear hKK K
    try simp only [Act.put, List.setIfInBounds_toArray, List.set_cons_zero, List.set_cons_succ]
    refine Until.wpU_pure (i := 10) (oi := { dst := some 6, op := Op.assign (Operand.tmp 30), type := 3, pos := "ref.go:266", after := #[{ on := 9, ground := Ground.data }, { on := 9, ground := Ground.chain }, { on := 0, ground := Ground.phase }, { on := 1, ground := Ground.phase }, { on := 2, ground := Ground.phase }, { on := 3, ground := Ground.phase }, { on := 4, ground := Ground.phase }, { on := 5, ground := Ground.phase }, { on := 6, ground := Ground.phase }, { on := 7, ground := Ground.phase }, { on := 8, ground := Ground.phase }, { on := 9, ground := Ground.phase }], guard := none }) (v := .int .i64 zz) rfl (by kernel_rfl) (by kernel_rfl) (by kernel_rfl) (by kernel_rfl) (by kernel_rfl) (fun _ _ _ h => h) (hA1) (fun _ => trivial) (by rfl) (by intro w'; go_simp) ?_
    try simp only [Act.put, List.setIfInBounds_toArray, List.set_cons_zero, List.set_cons_succ]
    refine Until.wpU_done (by kernel_rfl) ?_ _
    refine NoPanic.normal ?_
    rcases hcs.out zz hzz with ⟨n, rfl, n1, n2, n3⟩ | ⟨rfl, n1⟩ | ⟨rfl, n1⟩
    · have hK2 : Hid (txR T (acc ++ bytesOf T q (q + n)) (q + n) = R) := by rw [Hid, ← hK.out]; exact (n3 acc).symm
      clear n3 hcs hch hzz
      have c1 : ((n : Int) == 0) = false := by simp; omega
      have c2 : ¬ (n : Int) < 0 := by omega
      have c3 : (0 : Int) < (n : Int) := by omega
      go_upto_region 12 with fail
      replace hX1 := hid_e (XAt.next (w' := X.drew) hX1.out hrl hX1.out.at_ ((FrP.refl (· = r) X).drew))
      have hA2 := hX1.out.at_
      generalize hXX : X.drew = Y at hX1 hA2
      refine wp_region_noPanic ?_
      refine Until.wp_region_U (fun W => RT W r T (q : Int) 0 0) (fun _ => True) 99 (by kernel_rfl) ?_
      rw [hXX]
      clear hXX
      have i2 : (q : Int) + (n : Int) ≤ (T.size : Int) := by omega
      have i3 : (q : Int) ≤ (q : Int) + (n : Int) := by omega
      have i4 : (q : Int) + (n : Int) ≤ 9223372036854775807 := by omega
      have i6 : ((q : Int) + (n : Int)).toNat = q + n := by omega
      have i5 : IntKind.i64.wrap ((q : Int) + (n : Int)) = (q : Int) + (n : Int) := by have := Lib.wrap_i64_small (q + n) (by omega); rw [show (((q + n : Nat) : Int)) = (q : Int) + (n : Int) by omega] at this; exact this
      refine Until.wpU_pure (i := 0) (oi := { dst := some 50, op := Op.move (Operand.tmp 3), type := 62, pos := "ref.go:274", after := #[], guard := none }) (v := .slice ova acc.length ovc) rfl (by kernel_rfl) (by kernel_rfl) (by kernel_rfl) (by kernel_rfl) (by kernel_rfl) (fun _ _ _ h => h) (hA2) (fun _ => trivial) (by rfl) (by intro w'; go_simp) ?_
      try simp only [Act.put, List.setIfInBounds_toArray, List.set_cons_zero, List.set_cons_succ]
      refine Until.wpU_pure (i := 1) (oi := { dst := some 51, op := Op.move (Operand.tmp 0), type := 46, pos := "ref.go:274", after := #[], guard := none }) (v := .pointer (some ⟨r, 0, none⟩)) rfl (by kernel_rfl) (by kernel_rfl) (by kernel_rfl) (by kernel_rfl) (by kernel_rfl) (fun _ _ _ h => h) (hA2) (fun _ => trivial) (by rfl) (by intro w'; go_simp) ?_
      try simp only [Act.put, List.setIfInBounds_toArray, List.set_cons_zero, List.set_cons_succ]
      refine Until.wpU_pure (i := 2) (oi := { dst := some 52, op := Op.nilCheck (Operand.tmp 51), type := 0, pos := "ref.go:274", after := #[{ on := 1, ground := Ground.data }], guard := none }) (v := .pointer (some ⟨r, 0, none⟩)) rfl (by kernel_rfl) (by kernel_rfl) (by kernel_rfl) (by kernel_rfl) (by kernel_rfl) (fun _ _ _ h => h) (hA2) (fun _ => trivial) (by rfl) (by intro w'; go_simp) ?_
      try simp only [Act.put, List.setIfInBounds_toArray, List.set_cons_zero, List.set_cons_succ]
      refine Until.wpU_pure (i := 3) (oi := { dst := some 53, op := Op.fieldAddr 48 (Operand.tmp 52) 0, type := 0, pos := "ref.go:274", after := #[{ on := 2, ground := Ground.data }], guard := none }) (v := .pointer (some ⟨r, 0, none⟩)) rfl (by kernel_rfl) (by kernel_rfl) (by kernel_rfl) (by kernel_rfl) (by kernel_rfl) (fun _ _ _ h => h) (hA2) (fun _ => trivial) (by rfl) (by intro w'; go_simp) ?_
      try simp only [Act.put, List.setIfInBounds_toArray, List.set_cons_zero, List.set_cons_succ]
      refine Until.wpU_load0 (i := 4) (oi := { dst := some 54, op := Op.load 9 (Operand.tmp 53), type := 9, pos := "ref.go:274", after := #[{ on := 3, ground := Ground.data }], guard := none }) (v := .string T) rfl (by kernel_rfl) (by kernel_rfl) (by kernel_rfl) (by kernel_rfl) (by kernel_rfl) (fun _ _ _ h => h) (hA2) (fun _ => trivial) (by rfl) (by intro w' hw'; obtain ⟨t0, t1, t2, t3, -⟩ := RT.cells hw'; go_simp) ?_
      try simp only [Act.put, List.setIfInBounds_toArray, List.set_cons_zero, List.set_cons_succ]
      refine Until.wpU_pure (i := 5) (oi := { dst := some 55, op := Op.move (Operand.tmp 0), type := 46, pos := "ref.go:274", after := #[], guard := none }) (v := .pointer (some ⟨r, 0, none⟩)) rfl (by kernel_rfl) (by kernel_rfl) (by kernel_rfl) (by kernel_rfl) (by kernel_rfl) (fun _ _ _ h => h) (hA2) (fun _ => trivial) (by rfl) (by intro w'; go_simp) ?_
      try simp only [Act.put, List.setIfInBounds_toArray, List.set_cons_zero, List.set_cons_succ]
      refine Until.wpU_pure (i := 6) (oi := { dst := some 56, op := Op.nilCheck (Operand.tmp 55), type := 0, pos := "ref.go:274", after := #[{ on := 5, ground := Ground.data }], guard := none }) (v := .pointer (some ⟨r, 0, none⟩)) rfl (by kernel_rfl) (by kernel_rfl) (by kernel_rfl) (by kernel_rfl) (by kernel_rfl) (fun _ _ _ h => h) (hA2) (fun _ => trivial) (by rfl) (by intro w'; go_simp) ?_
      try simp only [Act.put, List.setIfInBounds_toArray, List.set_cons_zero, List.set_cons_succ]
      refine Until.wpU_pure (i := 7) (oi := { dst := some 57, op := Op.fieldAddr 48 (Operand.tmp 56) 1, type := 0, pos := "ref.go:274", after := #[{ on := 6, ground := Ground.data }], guard := none }) (v := .pointer (some ⟨r, 1, none⟩)) rfl (by kernel_rfl) (by kernel_rfl) (by kernel_rfl) (by kernel_rfl) (by kernel_rfl) (fun _ _ _ h => h) (hA2) (fun _ => trivial) (by rfl) (by intro w'; go_simp) ?_
      try simp only [Act.put, List.setIfInBounds_toArray, List.set_cons_zero, List.set_cons_succ]
      refine Until.wpU_load0 (i := 8) (oi := { dst := some 58, op := Op.load 3 (Operand.tmp 57), type := 3, pos := "ref.go:274", after := #[{ on := 7, ground := Ground.data }], guard := none }) (v := .int .i64 (q : Int)) rfl (by kernel_rfl) (by kernel_rfl) (by kernel_rfl) (by kernel_rfl) (by kernel_rfl) (fun _ _ _ h => h) (hA2) (fun _ => trivial) (by rfl) (by intro w' hw'; obtain ⟨t0, t1, t2, t3, -⟩ := RT.cells hw'; go_simp) ?_
      try simp only [Act.put, List.setIfInBounds_toArray, List.set_cons_zero, List.set_cons_succ]
      refine Until.wpU_pure (i := 9) (oi := { dst := some 59, op := Op.move (Operand.tmp 0), type := 46, pos := "ref.go:274", after := #[], guard := none }) (v := .pointer (some ⟨r, 0, none⟩)) rfl (by kernel_rfl) (by kernel_rfl) (by kernel_rfl) (by kernel_rfl) (by kernel_rfl) (fun _ _ _ h => h) (hA2) (fun _ => trivial) (by rfl) (by intro w'; go_simp) ?_
      try simp only [Act.put, List.setIfInBounds_toArray, List.set_cons_zero, List.set_cons_succ]
      refine Until.wpU_pure (i := 10) (oi := { dst := some 60, op := Op.nilCheck (Operand.tmp 59), type := 0, pos := "ref.go:274", after := #[{ on := 9, ground := Ground.data }], guard := none }) (v := .pointer (some ⟨r, 0, none⟩)) rfl (by kernel_rfl) (by kernel_rfl) (by kernel_rfl) (by kernel_rfl) (by kernel_rfl) (fun _ _ _ h => h) (hA2) (fun _ => trivial) (by rfl) (by intro w'; go_simp) ?_
      try simp only [Act.put, List.setIfInBounds_toArray, List.set_cons_zero, List.set_cons_succ]
      refine Until.wpU_pure (i := 11) (oi := { dst := some 61, op := Op.fieldAddr 48 (Operand.tmp 60) 1, type := 0, pos := "ref.go:274", after := #[{ on := 10, ground := Ground.data }], guard := none }) (v := .pointer (some ⟨r, 1, none⟩)) rfl (by kernel_rfl) (by kernel_rfl) (by kernel_rfl) (by kernel_rfl) (by kernel_rfl) (fun _ _ _ h => h) (hA2) (fun _ => trivial) (by rfl) (by intro w'; go_simp) ?_
      try simp only [Act.put, List.setIfInBounds_toArray, List.set_cons_zero, List.set_cons_succ]
      refine Until.wpU_load0 (i := 12) (oi := { dst := some 62, op := Op.load 3 (Operand.tmp 61), type := 3, pos := "ref.go:274", after := #[{ on := 11, ground := Ground.data }], guard := none }) (v := .int .i64 (q : Int)) rfl (by kernel_rfl) (by kernel_rfl) (by kernel_rfl) (by kernel_rfl) (by kernel_rfl) (fun _ _ _ h => h) (hA2) (fun _ => trivial) (by rfl) (by intro w' hw'; obtain ⟨t0, t1, t2, t3, -⟩ := RT.cells hw'; go_simp) ?_
      try simp only [Act.put, List.setIfInBounds_toArray, List.set_cons_zero, List.set_cons_succ]
      refine Until.wpU_pure (i := 13) (oi := { dst := some 63, op := Op.move (Operand.tmp 6), type := 3, pos := "ref.go:274", after := #[], guard := none }) (v := .int .i64 (n : Int)) rfl (by kernel_rfl) (by kernel_rfl) (by kernel_rfl) (by kernel_rfl) (by kernel_rfl) (fun _ _ _ h => h) (hA2) (fun _ => trivial) (by rfl) (by intro w'; go_simp) ?_
      try simp only [Act.put, List.setIfInBounds_toArray, List.set_cons_zero, List.set_cons_succ]
      refine Until.wpU_pure (i := 14) (oi := { dst := some 64, op := Op.binOp BinOp.add 3 (Operand.tmp 62) (Operand.tmp 63) 3, type := 3, pos := "ref.go:274", after := #[{ on := 12, ground := Ground.data }, { on := 13, ground := Ground.data }], guard := none }) (v := .int .i64 ((q : Int) + (n : Int))) rfl (by kernel_rfl) (by kernel_rfl) (by kernel_rfl) (by kernel_rfl) (by kernel_rfl) (fun _ _ _ h => h) (hA2) (fun _ => trivial) (by rfl) (by intro w'; go_simp) ?_
      try simp only [Act.put, List.setIfInBounds_toArray, List.set_cons_zero, List.set_cons_succ]
      refine Until.wpU_pure (i := 15) (oi := { dst := some 65, op := Op.slice 9 (Operand.tmp 54) (some (Operand.tmp 58)) (some (Operand.tmp 64)) none, type := 9, pos := "ref.go:274", after := #[{ on := 4, ground := Ground.data }, { on := 8, ground := Ground.data }, { on := 14, ground := Ground.data }], guard := none }) (v := .string (T.extract q (q + n))) rfl (by kernel_rfl) (by kernel_rfl) (by kernel_rfl) (by kernel_rfl) (by kernel_rfl) (fun _ _ _ h => h) (hA2) (fun _ => trivial) (by rfl) (by intro w'; go_simp) ?_
      try simp only [Act.put, List.setIfInBounds_toArray, List.set_cons_zero, List.set_cons_succ]
      refine Until.wpU_ready (rs := [16]) (by kernel_rfl) (by simp) ?_
      refine (Until.AllU.cons (o := { dst := some 66, op := Op.call { callee := Callee.builtin Builtin.append, args := #[Operand.tmp 50, Operand.tmp 65], argTypes := #[62, 9] }, type := 62, pos := "ref.go:274", after := #[{ on := 0, ground := Ground.data }, { on := 15, ground := Ground.data }], guard := none }) rfl (fun K hKK => ?_) Until.AllU.nil)
      have hlb : (T.extract q (q + n)).data.toList.length = n := bytesOf_len T q (q + n) n2 |>.trans (by omega)
      have hlb2 : (T.extract q (q + n)).size = n := by have := hlb; rw [Array.length_toList] at this; exact this
      refine step_app_str _ (by rfl) _ _ (by rfl) w.heap.size _ acc (by rfl) hX1.out.own (T.extract q (q + n)) (by rfl) (by omega) hX1.out.fr.size ?_
      intro kv W3 ho hgr
      have hX3 := hid_e (hX1.out.app hrl hgr ho)
      clear ho hgr
      refine hKK.out _ _ hX3.out.at_ (fun _ => trivial) ?_
      clear hKK K
      try simp only [Act.put, List.setIfInBounds_toArray, List.set_cons_zero, List.set_cons_succ]
      refine Until.wpU_pure (i := 17) (oi := { dst := some 3, op := Op.assign (Operand.tmp 66), type := 62, pos := "ref.go:274", after := #[{ on := 16, ground := Ground.data }, { on := 16, ground := Ground.chain }, { on := 0, ground := Ground.phase }, { on := 1, ground := Ground.phase }, { on := 2, ground := Ground.phase }, { on := 3, ground := Ground.phase }, { on := 4, ground := Ground.phase }, { on := 5, ground := Ground.phase }, { on := 6, ground := Ground.phase }, { on := 7, ground := Ground.phase }, { on := 8, ground := Ground.phase }, { on := 9, ground := Ground.phase }, { on := 10, ground := Ground.phase }, { on := 11, ground := Ground.phase }, { on := 12, ground := Ground.phase }, { on := 13, ground := Ground.phase }, { on := 14, ground := Ground.phase }, { on := 15, ground := Ground.phase }, { on := 16, ground := Ground.phase }], guard := none }) (v := kv) rfl (by kernel_rfl) (by kernel_rfl) (by kernel_rfl) (by kernel_rfl) (by kernel_rfl) (fun _ _ _ h => h) (hX3.out.at_) (fun _ => trivial) (by rfl) (by intro w'; go_simp) ?_
      try simp only [Act.put, List.setIfInBounds_toArray, List.set_cons_zero, List.set_cons_succ]
      refine Until.wpU_done (by kernel_rfl) ?_ _
      refine NoPanic.normal ?_
      obtain ⟨y0, y1, y2, y3, yf⟩ := hX3.out.at_.cells
      have yf1 := yf 1
      clear yf y0 y2 y3
      have hR4 := hX3.out.at_.set1 ((q : Int) + (n : Int))
      have hX4 := hid_e (hX3.out.next hrl hR4 ((FrP.refl (· = r) W3).set _ _ (.inl rfl)))
      replace hlb := hid_e hlb
      replace hlb2 := hid_e hlb2
      go_wp2_with fail
      go_roundg g'
      case measure => omega
      case rel =>
        refine ⟨acc ++ bytesOf T q (q + n), .inl ⟨q + n, n2, by omega, ?_, hid_e ?_, hK2⟩⟩
        · rw [List.length_append, bytesOf_len T q (q + n) n2]; omega
        · rw [show ((q + n : Nat) : Int) = (q : Int) + (n : Int) by omega]; exact hX4.out
    · have hRe : Hid (R = .bad 13 q) := by rw [Hid, ← hK.out]; exact n1 acc
      clear n1 hcs hch hzz
      have hfl := hid_e (fail_code r T (q : Int) (q : Int) 13 X hA1)
      obtain ⟨-, y1, -, -, -⟩ := hA1.cells
      go_wp2_with fail
      go_fit hfl.out
      clear y1
      rintro e w2 ⟨rfl, hS2, hF2⟩
      have hX2 := hid_e (hX1.out.next hrl hS2 hF2)
      go_wp2_with fail
      go_roundg g'
      case measure => omega
      case rel => exact ⟨acc, .inr ⟨_, 13, q, by decide, hRe, hX2⟩⟩
    · have hRe : Hid (R = .bad 3 T.size) := by rw [Hid, ← hK.out]; exact n1 acc
      clear n1 hcs hch hzz
      have hfl := hid_e (fail_code r T (q : Int) (T.size : Int) 3 X hA1)
      obtain ⟨y0, -, -, -, -⟩ := hA1.cells
      go_wp2_with fail
      go_fit hfl.out
      clear y0
      rintro e w2 ⟨rfl, hS2, hF2⟩
      have hX2 := hid_e (hX1.out.next hrl hS2 hF2)
      go_wp2_with fail
      go_roundg g'
      case measure => omega
      case rel => exact ⟨acc, .inr ⟨_, 3, T.size, by decide, hRe, hX2⟩⟩
end Go.Proofs.YtnccaidlcaeeaaaGreatDoor.Tree
