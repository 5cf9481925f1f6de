import Derived.Test.YtnccaidlcaeeaaaGreatDoorW9
import Derived.Test.YtnccaidlcaeeaaaGreatDoorW8
namespace Go.Proofs.YtnccaidlcaeeaaaGreatDoor
open Go Go.RowKit Go.Maps

theorem ObjInv.keep {base b bv br bd bh bm : Nat} {d : Int} {w0 wI w1 w2 : World} {p : List ByteArray × List J} (hlo : ObjLo base b bv br bd bh bm w0) (h : ObjInv base b bv br bd bh bm d w0 wI p w1) (hb8 : 8 ≤ b) (hk : Kp b w1 w2) : ObjInv base b bv br bd bh bm d w0 wI p w2 := by
  obtain ⟨hE, hK, hb0, hba, hfx, hbr, hbd, hbh, hS, heq, an, cn, hnm, hnn, ao, cap, xs, hbv, hown, hne, hrep⟩ := h
  obtain ⟨⟨lo1, lo2, lo3, lo4, lo5⟩, ⟨hi1, hi2, hi3, hi4, hi5⟩, ne1, ne2, ne3, ne4, ne5, ne6, ne7⟩ := hlo
  have hs := hk.size
  have hs0 := hK.size
  refine ⟨hE.keep (fun k h8 => hk.block k (by omega) (by omega)), hK.trans hk, hb0, ⟨hba.1, by omega⟩, fun k h1 h2 h3 h4 => (hk.block k (by omega) h2).trans (hfx k h1 h2 h3 h4), ?_, ?_, ?_, ?_, heq, an, cn, ?_, hnn, ao, cap, xs, ?_, ?_, hne, ?_⟩
  · rw [hk.block br (by omega) (by omega)]; exact hbr
  · rw [hk.block bd (by omega) (by omega)]; exact hbd
  · rw [hk.block bh (by omega) (by omega)]; exact hbh
  · exact hS.keep (hk.block bm (by omega) (by omega))
  · exact ownsRow_keep hnm (fun g hg => hk.block g (ownsRow_ge hnm hg).2 (by have := (ownsRow_ge hnm hg).1; omega))
  · rw [hk.block bv (by omega) (by omega)]; exact hbv
  · exact ownsRow_keep hown (fun g hg => hk.block g (ownsRow_ge hown hg).2 (by have := (ownsRow_ge hown hg).1; omega))
  · exact RepL.up _ _ (RepL.keep _ _ hrep (fun k ka kb => hk.block k kb (by omega))) hs

theorem obj_part (base b bv br bd bh bm k : Nat) (d : Int) (T : ByteArray) (tx : Nat → Res ByteArray) (hQ : QuotedOk T tx) (hV : ValOk T tx k) (hd0 : 0 ≤ d) (hd : d + 1 + k = 64) (w0 wI : World) (hlo : ObjLo base b bv br bd bh bm w0) (hT : T.size ≤ 65536) (hb8 : 8 ≤ b) :
    PartOk b T 89 #[.pointer (some ⟨bv, 0, none⟩), .pointer (some ⟨br, 0, none⟩), .pointer (some ⟨bh, 0, none⟩), .pointer (some ⟨bd, 0, none⟩)] (memberR T tx (valR T tx k)) (fun p => p.2.length) (fun p w => ObjInv base b bv br bd bh bm d w0 wI p w) (Kp b w0) where
  grow := fun p m p' m' h => by
    unfold memberR at h
    cases hv : nameR T tx p.1 m with
    | bad e q => rw [hv] at h; cases h
    | ok s n1 =>
      rw [hv] at h
      simp only at h
      cases hw : valR T tx k n1 with
      | ok j n => rw [hw] at h; simp only [Res.map, Res.ok.injEq] at h; obtain ⟨rfl, _⟩ := h; simp
      | bad e q => rw [hw] at h; simp [Res.map] at h
  keep := fun p w1 w2 h hk => h.keep hlo hb8 hk
  gone := fun p w1 h => h.kp
  walk := fun p m w1 hI hA hm hl => by
    obtain ⟨ns, l⟩ := p
    cases hv : nameR T tx ns m with
    | bad er q =>
      refine (obj1_bad1 base b bv br bd bh bm m d T tx hQ ns l w0 wI w1 hlo hI hA hm hT hl hb8 er q hv).mono ?_
      rintro e w2 ⟨rfl, h1⟩
      have : memberR T tx (valR T tx k) (ns, l) m = .bad er q := by unfold memberR; simp only [hv]
      rw [this]
      exact ⟨rfl, h1⟩
    | ok s n1 =>
      cases hw : valR T tx k n1 with
      | ok j n2 =>
        refine (obj1_ok base b bv br bd bh bm m k d T tx hQ hV hd0 hd ns l w0 wI w1 hlo hI hA hm hT hl hb8 s n1 n2 j hv hw).mono ?_
        rintro e w2 ⟨rfl, h1, h2, h3, h4⟩
        have : memberR T tx (valR T tx k) (ns, l) m = .ok (ns ++ [s], l ++ [j]) n2 := by unfold memberR; simp only [hv, hw, Res.map]
        rw [this]
        exact ⟨rfl, h1, h2, h3, h4⟩
      | bad er q =>
        refine (obj1_bad2 base b bv br bd bh bm m k d T tx hQ hV hd0 hd ns l w0 wI w1 hlo hI hA hm hT hl hb8 s n1 er q hv hw).mono ?_
        rintro e w2 ⟨rfl, h1⟩
        have : memberR T tx (valR T tx k) (ns, l) m = .bad er q := by unfold memberR; simp only [hv, hw, Res.map]
        rw [this]
        exact ⟨rfl, h1⟩

def wObj (w : World) (b : Nat) (d : Int) : World := ((wList w b d 6).alloc (.map #[] 0)).alloc (.cells #[.map (some (w.heap.size + 1 + 1 + 1 + 1))] 105)
theorem wObj_size (w : World) (b : Nat) (d : Int) : (wObj w b d).heap.size = w.heap.size + 6 := by
  have := wList_size w b d 6
  simp only [wObj, World.size_alloc]; omega
theorem wObj_list (w : World) (b : Nat) (d : Int) {k : Nat} (h : k < w.heap.size + 4) : (wObj w b d).heap[k]? = (wList w b d 6).heap[k]? := by
  have := wList_size w b d 6
  unfold wObj
  rw [alloc_old (by simp only [World.size_alloc]; omega), alloc_old (by omega)]
theorem wObj_m (w : World) (b : Nat) (d : Int) : (wObj w b d).heap[w.heap.size + 1 + 1 + 1 + 1]? = some (.map #[] 0) := by
  have := wList_size w b d 6
  unfold wObj
  rw [alloc_old (by simp only [World.size_alloc]; omega), alloc_at (by omega)]
theorem wObj_h (w : World) (b : Nat) (d : Int) : (wObj w b d).heap[w.heap.size + 1 + 1 + 1 + 1 + 1]? = some (.cells #[.map (some (w.heap.size + 1 + 1 + 1 + 1))] 105 (0, 0)) := by
  have := wList_size w b d 6
  unfold wObj
  rw [alloc_at (by simp only [World.size_alloc]; omega)]
theorem wObj_kp (w : World) (b : Nat) (d : Int) : Kp b w (wObj w b d) := ((wList_kp w b d 6).alloc _).alloc _
theorem wObj_lo (w : World) (b : Nat) : ObjLo (w.heap.size + 6) b (w.heap.size + 1 + 1 + 1) w.heap.size (w.heap.size + 1) (w.heap.size + 1 + 1 + 1 + 1 + 1) (w.heap.size + 1 + 1 + 1 + 1) w :=
  ⟨⟨by omega, by omega, by omega, by omega, by omega⟩, ⟨by omega, by omega, by omega, by omega, by omega⟩, by omega, by omega, by omega, by omega, by omega, by omega, by omega⟩
theorem obj_start (b : Nat) (d : Int) (w : World) (hE : Env w) (hb : b < w.heap.size) (hb8 : 8 ≤ b) : ObjInv (w.heap.size + 6) b (w.heap.size + 1 + 1 + 1) w.heap.size (w.heap.size + 1) (w.heap.size + 1 + 1 + 1 + 1 + 1) (w.heap.size + 1 + 1 + 1 + 1) d w (wObj w b d) ([], []) (wObj w b d) := by
  have hs := wObj_size w b d
  refine ⟨hE.keep (fun k hk => (wObj_list w b d (by omega)).trans (wList_old w b d 6 (by omega))), wObj_kp w b d, hb, ⟨by omega, by omega⟩, fun _ _ _ _ _ => rfl, (wObj_list w b d (by omega)).trans (wList_0 w b d 6), (wObj_list w b d (by omega)).trans (wList_1 w b d 6), wObj_h w b d, ?_, rfl, none, 0, World.ownsRow_nil _ _ _ _, ?_, none, 0, [], (wObj_list w b d (by omega)).trans (wList_3 w b d 6), World.ownsRow_nil _ _ _ _, ?_, ?_⟩
  · have h0 : SetAt (wList w b d 6).heap.size [] ((wList w b d 6).alloc (.map #[] 0)) := World.ownsMap_made _ _ _ _
    have hl := wList_size w b d 6
    rw [hl] at h0
    exact h0.keep (alloc_old (by simp only [World.size_alloc]; omega))
  · intro g hg; cases hg
  · intro g hg; cases hg
  · unfold RepL; rfl

theorem obj_done {b n n' : Nat} {T : ByteArray} {w w5 W : World} {ns : List ByteArray} {l : List J} {an : Option Addr} {cn : Nat} {ao : Option Addr} {cap : Nat} {xs : List Value}
    (hW : W = put5 w5 (w.heap.size + 1 + 1) 0 (.int .i64 6) (.int .i64 0) (.string noS) (.slice an ns.length cn) (.slice ao l.length cap))
    (hb : b < w.heap.size) (hK : Kp b w w5) (heq : ns.length = l.length)
    (hnm : w5.ownsRow (w.heap.size + 6) 9 1 (.slice an ns.length cn) ns.length (strs ns))
    (hown : w5.ownsRow (w.heap.size + 6) 25 5 (.slice ao l.length cap) l.length xs) {av : List Nat}
    (hrep : RepL w5 (w.heap.size + 6) w5.heap.size (av ++ (Value.slice an ns.length cn).ownBlock.toList ++ (Value.slice ao l.length cap).ownBlock.toList) l xs)
    (hA : At b T n' w5) (h1 : n < n') (h2 : n' ≤ T.size) :
    VPost b T n w (.returned (.agg #[.int .i64 6, .int .i64 0, .string noS, .slice an ns.length cn, .slice ao l.length cap])) W (.ok (.obj ns l) n') := by
  have hsz : W.heap.size = w5.heap.size := by rw [hW, put5_size]
  have hfar : ∀ k, k ≠ w.heap.size + 1 + 1 → W.heap[k]? = w5.heap[k]? := fun k hk => by rw [hW, put5_far _ _ _ _ _ hk]
  have hKW : Kp b w W := by rw [hW]; exact put5_kp hK (by omega) _ _ _ _ _ _
  refine ⟨6, 0, noS, an, ns.length, cn, ao, l.length, cap, rfl, ?_, ?_, hKW, h1, h2⟩
  · unfold Rep
    refine ⟨_, _, xs, rfl, ownsRow_lower (ownsRow_keep hnm (fun g hg => hfar g (by have := (ownsRow_ge hnm hg).1; omega))) (by omega), fun g hg => by have := (ownsRow_ge hnm hg).2; omega, ownsRow_lower (ownsRow_keep hown (fun g hg => hfar g (by have := (ownsRow_ge hown hg).1; omega))) (by omega), fun g hg => by have := (ownsRow_ge hown hg).2; omega, heq, ?_⟩
    rw [hsz]
    refine RepL.down _ _ (RepL.obs _ _ (RepL.keep _ _ hrep (fun k ka kb => hfar k (by omega))) (fun g hg => Or.inl ?_)) (by omega)
    rw [List.append_assoc]; exact List.mem_append_right _ hg
  · exact (hfar b (by omega)).trans hA

set_option maxHeartbeats 1000000 in
theorem object_any (b n k : Nat) (d : Int) (T : ByteArray) (tx : Nat → Res ByteArray) (hQ : QuotedOk T tx) (hV : ValOk T tx k) (hd0 : 0 ≤ d) (hd : d + 1 + k = 64) (w : World) (hA : At b T n w) (hE : Env w) (hb8 : 8 ≤ b) (hn : n < T.size) (hT : T.size ≤ 65536) :
    Calls Tryz.prog 68 #[.pointer (some ⟨b, 0, none⟩), .int .i64 d] w fun e w' => VPost b T n w e w' ((betweenR (memberR T tx (valR T tx k)) 125 T ([], []) n).map fun p => .obj p.1 p.2) := by
  have hmf : ∀ (fn : Fn) (first cap : Array Value) (w : World), (Instr.makeFunc fn first cap).run Tryz.prog w = .ok (.func fn first cap) w := fun _ _ _ _ => rfl
  have hmm := @run_makeMap Tryz.prog
  have hbl := hA.lt
  have hlo := wObj_lo w b
  have hP := obj_part (w.heap.size + 6) b (w.heap.size + 1 + 1 + 1) w.heap.size (w.heap.size + 1) (w.heap.size + 1 + 1 + 1 + 1 + 1) (w.heap.size + 1 + 1 + 1 + 1) k d T tx hQ hV hd0 hd w (wObj w b d) hlo hT hb8
  have hA4 : At b T n (wObj w b d) := (wObj_list w b d (by omega)).trans ((wList_old w b d 6 hbl).trans hA)
  have HI : Hid (ObjInv (w.heap.size + 6) b (w.heap.size + 1 + 1 + 1) w.heap.size (w.heap.size + 1) (w.heap.size + 1 + 1 + 1 + 1 + 1) (w.heap.size + 1 + 1 + 1 + 1) d w (wObj w b d) ([], []) (wObj w b d)) := obj_start b d w hE hbl hb8
  have H2 : Hid ((wObj w b d).heap[w.heap.size + 1 + 1]? = some (.cells #[.int .i64 0, .int .i64 0, .string noS, nilS, nilS] 25 (0, 0))) := (wObj_list w b d (by omega)).trans (wList_2 w b d 6)
  clear hE hd hd0 hlo
  go_enter Tryz.func68, Tryz.ntmps68
  go_wp2_with fail
  refine (between_obj b n T 125 ⟨w.heap.size + 1 + 1 + 1, 0, none⟩ ⟨w.heap.size, 0, none⟩ ⟨w.heap.size + 1 + 1 + 1 + 1 + 1, 0, none⟩ ⟨w.heap.size + 1, 0, none⟩ (memberR T tx (valR T tx k)) (fun p => p.2.length) (fun p w' => ObjInv (w.heap.size + 6) b (w.heap.size + 1 + 1 + 1) w.heap.size (w.heap.size + 1) (w.heap.size + 1 + 1 + 1 + 1 + 1) (w.heap.size + 1 + 1 + 1 + 1) d w (wObj w b d) p w') (Kp b w) hP ([], []) (wObj w b d) hA4 hn hT HI (Nat.zero_le _)).mono ?_
  intro e w5 hB
  cases hb : betweenR (memberR T tx (valR T tx k)) 125 T ([], []) n with
  | bad er p =>
    rw [hb] at hB
    obtain ⟨rfl, hG⟩ := hB
    have HR : Hid ((betweenR (memberR T tx (valR T tx k)) 125 T ([], []) n).map (fun p => J.obj p.1 p.2) = .bad er p) := by unfold Hid; rw [hb]; rfl
    clear hb hP
    go_wp2_with fail
    refine ⟨rfl, ?_⟩
    rw [HR.out]
    exact ⟨rfl, hG⟩
  | ok p n' =>
    obtain ⟨ns, l⟩ := p
    rw [hb] at hB
    obtain ⟨rfl, hI5, hA5, hl1, hl2⟩ := hB
    have HR : Hid ((betweenR (memberR T tx (valR T tx k)) 125 T ([], []) n).map (fun p => J.obj p.1 p.2) = .ok (.obj ns l) n') := by unfold Hid; rw [hb]; rfl
    clear hb hP HI
    obtain ⟨hE5, hK5, hb0, hba, hfx, _, _, _, _, heq, an, cn, hnm, hnn, ao, cap, xs, hbv, hown, hne, hrep⟩ := hI5
    have HEQ : Hid (ns.length = l.length) := heq
    have hres : w5.heap[w.heap.size + 1 + 1]? = some (.cells #[.int .i64 0, .int .i64 0, .string noS, nilS, nilS] 25 (0, 0)) := (hfx _ (by omega) (by omega) (by omega) (by omega)).trans H2.out
    have v0 : w5.cell? ⟨w.heap.size + 1 + 1 + 1, 0, none⟩ = some (.int .i64 6) := cell_of hbv 0
    have v1 : w5.cell? ⟨w.heap.size + 1 + 1 + 1, 1, none⟩ = some (.int .i64 0) := cell_of hbv 1
    have v2 : w5.cell? ⟨w.heap.size + 1 + 1 + 1, 2, none⟩ = some (.string noS) := cell_of hbv 2
    have v3 : w5.cell? ⟨w.heap.size + 1 + 1 + 1, 3, none⟩ = some (.slice an ns.length cn) := cell_of hbv 3
    have v4 : w5.cell? ⟨w.heap.size + 1 + 1 + 1, 4, none⟩ = some (.slice ao l.length cap) := cell_of hbv 4
    have r0 : w5.cell? ⟨w.heap.size + 1 + 1, 0, none⟩ = some (.int .i64 0) := cell_of hres 0
    have r1 : w5.cell? ⟨w.heap.size + 1 + 1, 1, none⟩ = some (.int .i64 0) := cell_of hres 1
    have r2 : w5.cell? ⟨w.heap.size + 1 + 1, 2, none⟩ = some (.string noS) := cell_of hres 2
    have r3 : w5.cell? ⟨w.heap.size + 1 + 1, 3, none⟩ = some (.slice none 0 0) := cell_of hres 3
    have r4 : w5.cell? ⟨w.heap.size + 1 + 1, 4, none⟩ = some (.slice none 0 0) := cell_of hres 4
    have rf := fun o => frozen_of hres o
    clear hfx hbv hres heq
    go_wp2_with fail
    refine bodyPost_ret (v := .agg #[.int .i64 6, .int .i64 0, .string noS, .slice an ns.length cn, .slice ao l.length cap]) ?_ rfl ?_
    · simp [results, Tryz.results68, go_sem, r0, r1, r2, r3, r4]
    · rw [HR.out]
      exact obj_done (w5 := w5) (W := put5 w5 (w.heap.size + 1 + 1) 0 (.int .i64 6) (.int .i64 0) (.string noS) (.slice an ns.length cn) (.slice ao l.length cap)) rfl hbl hK5 HEQ.out hnm hown hrep hA5 hl1 hl2
end Go.Proofs.YtnccaidlcaeeaaaGreatDoor
