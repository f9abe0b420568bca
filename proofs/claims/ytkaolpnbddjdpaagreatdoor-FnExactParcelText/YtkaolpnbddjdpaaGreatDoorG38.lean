/- Texts of ours put together: PcX, ShInt, IxQ, IxDb, IxT, IxD, RbG. -/
import Derived.Test.YtkaolpnbddjdpaaGreatDoorG34
import Derived.Test.YtkaolpnbddjdpaaGreatDoorG08
import Derived.Test.YtkaolpnbddjdpaaGreatDoorG06
import Derived.Test.YtkaolpnbddjdpaaGreatDoorG02
import Derived.Lib.LaidTab
import Derived.Lib.AppendIntMem
import Derived.Deep.RegionHeld3
import Derived.Deep.RegionLaw
import Derived.Deep.AppendLies
import Derived.Test.YtkaolpnbddjdpaaGreatDoorG07
import Derived.Test.YtkaolpnbddjdpaaGreatDoorG09
namespace Go.Proofs.YtkaolpnbddjdpaaGreatDoor
open Go.ChangeShapes Go.WideShapes Go.ChangeAt Go.RowKit
/-- What ParcelIx tells. -/
noncomputable def ixT (p : Pcl) : Ixc := bif pclB p then ixP p else ⟨⟨#[]⟩, ⟨#[]⟩, 0, []⟩
theorem pclB_all {p : Pcl} (h : pclB p = true) : ∀ q ∈ p.papers, papB q = true := by
  unfold pclB at h
  rw [Bool.and_eq_true, List.all_eq_true] at h
  exact h.1
set_option maxHeartbeats 8000000 in
theorem parcelIx_impl (p : Pcl) (v : Value) (w : World) (h : PclR w v p) (hI : ∀ q ∈ p.papers, PapI q) (hB : BdPc 1048576 p) (hV : VarsAt w) :
    Calls Tryz.prog 19 #[.agg #[.string p.frm, .string p.to, .int .i64 p.num, v]] w fun e w' => ∃ u bs, e = .returned (.agg #[.string (ixT p).frm, .string (ixT p).to, .int .i64 (ixT p).num, u]) ∧ OwnBs w.heap.size w' u bs ∧ bs.map (·.1) = (ixT p).buns ∧ Below w.heap.size w w' := by
  obtain ⟨frm, tto, num, ps⟩ := p
  have hps := h.ps
  dsimp only at hps
  obtain ⟨A, C, rfl⟩ := hps.val
  obtain ⟨W1, hW1⟩ : ∃ W1, (w.alloc (.cells #[.string frm, .string tto, .int .i64 num, .slice A ps.length C] 27)).alloc (.cells #[.string ⟨#[]⟩, .string ⟨#[]⟩, .int .i64 0, .slice none 0 0] 44) = W1 := ⟨_, rfl⟩
  have hb1 : Below w.heap.size w W1 := by rw [← hW1]; exact ((Below.refl _ _).alloc (Nat.le_refl _) _).alloc (by simp) _
  have hs1 : W1.heap.size = w.heap.size + 2 := by rw [← hW1]; simp
  have hx0 : W1.heap[w.heap.size]? = some (.cells #[.string frm, .string tto, .int .i64 num, .slice A ps.length C] 27) := by
    rw [← hW1, (Below.alloc (Below.refl (w.alloc (.cells #[.string frm, .string tto, .int .i64 num, .slice A ps.length C] 27)).heap.size (w.alloc (.cells #[.string frm, .string tto, .int .i64 num, .slice A ps.length C] 27))) (Nat.le_refl _) (.cells #[.string ⟨#[]⟩, .string ⟨#[]⟩, .int .i64 0, .slice none 0 0] 44)).block w.heap.size (by simp)]
    exact World.alloc_heap_new w _
  have hy0 : W1.heap[w.heap.size + 1]? = some (.cells #[.string ⟨#[]⟩, .string ⟨#[]⟩, .int .i64 0, .slice none 0 0] 44) := by
    rw [← hW1]
    have := World.alloc_heap_new (w.alloc (.cells #[.string frm, .string tto, .int .i64 num, .slice A ps.length C] 27)) (.cells #[.string ⟨#[]⟩, .string ⟨#[]⟩, .int .i64 0, .slice none 0 0] 44)
    simpa using this
  have HW1 : Hid ((w.alloc (.cells #[.string frm, .string tto, .int .i64 num, .slice A ps.length C] 27)).alloc (.cells #[.string ⟨#[]⟩, .string ⟨#[]⟩, .int .i64 0, .slice none 0 0] 44) = W1 ∧ W1.heap.size = w.heap.size + 2) := ⟨hW1, hs1⟩
  have HP : Hid (∀ W, Below W1.heap.size W1 W → W.heap[w.heap.size]? = some (.cells #[.string frm, .string tto, .int .i64 num, .slice A ps.length C] 27) ∧ W.heap[w.heap.size + 1]? = some (.cells #[.string ⟨#[]⟩, .string ⟨#[]⟩, .int .i64 0, .slice none 0 0] 44)) := fun W hW => ⟨(hW.block _ (Array.getElem?_eq_some_iff.1 hx0).1).trans hx0, (hW.block _ (Array.getElem?_eq_some_iff.1 hy0).1).trans hy0⟩
  dsimp only at hI ⊢
  have H0 : Hid (PclR w (.slice A ps.length C) ⟨frm, tto, num, ps⟩ ∧ (∀ q ∈ ps, PapI q) ∧ BdPc 1048576 ⟨frm, tto, num, ps⟩ ∧ Below w.heap.size w W1 ∧ VarsAt w) := ⟨h, hI, hB, hb1, hV⟩
  have QR := parcelRight_impl ⟨frm, tto, num, ps⟩ (.slice A ps.length C) W1 (H0.out.1.below H0.out.2.2.2.1) H0.out.2.1 H0.out.2.2.1 (H0.out.2.2.2.2.below H0.out.2.2.2.1)
  obtain ⟨y, hy⟩ : ∃ y, y = pclB ⟨frm, tto, num, ps⟩ := ⟨_, rfl⟩
  have HY : Hid (y = pclB ⟨frm, tto, num, ps⟩) := hy
  rw [← hy] at QR
  dsimp only at QR
  obtain ⟨_, x0, x1, x2, x3⟩ := ix4 hx0
  clear h hI hB hb1 hps hW1 hx0 hy0 hs1 hy hV
  go_enter Tryz.func19, Tryz.ntmps19
  go_upto_region 1 with fail
  try rw [HW1.out.1]
  go_wp2_with fail
  refine QR.mono ?_
  rintro e w1 ⟨rfl, hr1⟩
  have H1 : Hid (Below w.heap.size w w1) := H0.out.2.2.2.1.trans (hr1.mono H0.out.2.2.2.1.size)
  have K1 : Hid (Below W1.heap.size W1 w1) := hr1
  clear hr1 QR x0 x1 x2 x3
  cases y with
  | false =>
    have HF : Hid (ixT ⟨frm, tto, num, ps⟩ = ⟨⟨#[]⟩, ⟨#[]⟩, 0, []⟩) := by show _ = _; unfold ixT; rw [← HY.out]; rfl
    obtain ⟨_, y0, y1, y2, y3⟩ := ix4 (HP.out w1 K1.out).2
    go_wp2
    obtain ⟨W3, hW3⟩ : ∃ W3, ((((w1.setCell ⟨w.heap.size + 1, 0, none⟩ (.string ⟨#[]⟩)).setCell ⟨w.heap.size + 1, 1, none⟩ (.string ⟨#[]⟩)).setCell ⟨w.heap.size + 1, 2, none⟩ (.int .i64 0)).setCell ⟨w.heap.size + 1, 3, none⟩ (.slice none 0 0)) = W3 := ⟨_, rfl⟩
    rw [hW3]
    have hz : W3.heap[w.heap.size + 1]? = some (.cells #[.string ⟨#[]⟩, .string ⟨#[]⟩, .int .i64 0, .slice none 0 0] 44) := by rw [← hW3]; exact ix_set4 _ _ _ _ (HP.out w1 K1.out).2
    have hbz : Below w.heap.size w W3 := by rw [← hW3]; exact (((H1.out.setCell (Nat.le_succ _) _).setCell (Nat.le_succ _) _).setCell (Nat.le_succ _) _).setCell (Nat.le_succ _) _
    clear hW3 y0 y1 y2 y3
    obtain ⟨_, y0, y1, y2, y3⟩ := ix4 hz
    refine bodyPost_ret (v := .agg #[.string ⟨#[]⟩, .string ⟨#[]⟩, .int .i64 0, .slice none 0 0]) (by simp [results, Tryz.results19, go_sem, y0, y1, y2, y3]) rfl ?_
    exact ⟨.slice none 0 0, [], by rw [HF.out], OwnBs.nil _ _, by rw [HF.out]; rfl, hbz⟩
  | true =>
    have hall : ∀ q ∈ ps, papB q = true := pclB_all HY.out.symm
    have HF : Hid (ixT ⟨frm, tto, num, ps⟩ = ixP ⟨frm, tto, num, ps⟩) := by show _ = _; unfold ixT; rw [← HY.out]; rfl
    have QX := ixOf_any ⟨frm, tto, num, ps⟩ (.slice A ps.length C) w1 (H0.out.1.below H1.out) (fun q hq => ⟨H0.out.2.1 q hq, (papB_okX (hall q hq)).kd⟩) H0.out.2.2.1 (H0.out.2.2.2.2.below H1.out)
    dsimp only at QX
    obtain ⟨_, x0, x1, x2, x3⟩ := ix4 (HP.out w1 K1.out).1
    clear hall
    go_wp2_with fail
    refine QX.mono ?_
    rintro e w2 ⟨u, bs, rfl, hO, hbs, hb2⟩
    obtain ⟨Au, nu, Cu, rfl⟩ : ∃ Au nu Cu, u = .slice Au nu Cu := by obtain ⟨A', C', e⟩ := own_formX hO.row; exact ⟨A', _, C', e⟩
    have K2 : Hid (Below W1.heap.size W1 w2) := K1.out.trans (hb2.mono K1.out.size)
    have H2 : Hid (OwnBs w1.heap.size w2 (.slice Au nu Cu) bs ∧ bs.map (·.1) = bunsP ps ∧ Below w.heap.size w w2 ∧ w.heap.size + 2 ≤ w1.heap.size) := ⟨hO, hbs, H1.out.trans (hb2.mono H1.out.size), by have := K1.out.size; have := HW1.out.2; omega⟩
    clear hO hbs hb2 QX x0 x1 x2 x3
    obtain ⟨_, y0, y1, y2, y3⟩ := ix4 (HP.out w2 K2.out).2
    go_wp2
    obtain ⟨W3, hW3⟩ : ∃ W3, ((((w2.setCell ⟨w.heap.size + 1, 0, none⟩ (.string frm)).setCell ⟨w.heap.size + 1, 1, none⟩ (.string tto)).setCell ⟨w.heap.size + 1, 2, none⟩ (.int .i64 num)).setCell ⟨w.heap.size + 1, 3, none⟩ (.slice Au nu Cu)) = W3 := ⟨_, rfl⟩
    rw [hW3]
    have hz : W3.heap[w.heap.size + 1]? = some (.cells #[.string frm, .string tto, .int .i64 num, .slice Au nu Cu] 44) := by rw [← hW3]; exact ix_set4 _ _ _ _ (HP.out w2 K2.out).2
    have hbz : Below w.heap.size w W3 := by rw [← hW3]; exact (((H2.out.2.2.1.setCell (Nat.le_succ _) _).setCell (Nat.le_succ _) _).setCell (Nat.le_succ _) _).setCell (Nat.le_succ _) _
    have hlt : w.heap.size + 1 < w1.heap.size := by have := H2.out.2.2.2; omega
    have hle : w.heap.size ≤ w1.heap.size := by omega
    have hO3 : OwnBs w.heap.size W3 (.slice Au nu Cu) bs := by rw [← hW3]; exact ((((H2.out.1.setX hlt _ _).setX hlt _ _).setX hlt _ _).setX hlt _ _).monoX hle
    have H3 : Hid (OwnBs w.heap.size W3 (.slice Au nu Cu) bs ∧ Below w.heap.size w W3) := ⟨hO3, hbz⟩
    clear hW3 y0 y1 y2 y3 hO3 hbz hlt hle
    obtain ⟨_, y0, y1, y2, y3⟩ := ix4 hz
    refine bodyPost_ret (v := .agg #[.string frm, .string tto, .int .i64 num, .slice Au nu Cu]) (by simp [results, Tryz.results19, go_sem, y0, y1, y2, y3]) rfl ?_
    exact ⟨.slice Au nu Cu, bs, by rw [HF.out]; rfl, H3.out.1, by rw [HF.out]; exact H2.out.2.1, H3.out.2⟩
end Go.Proofs.YtkaolpnbddjdpaaGreatDoor
namespace Go.Proofs.YtkaolpnbddjdpaaGreatDoor
open Go.Shelf Go.RowKit Go.Lib
def laysM171_ren : Go.Shelf.Ren := ⟨fun | 171 => 148 | 243 => 173 | 246 => 171 | 283 => 185 | 284 => 186 | 285 => 187 | 286 => 188 | 129 => 198 | 317 => 197 | 318 => 199 | 319 => 200 | 320 => 201 | 337 => 207 | 338 => 208 | n => n, fun | 3 => 3 | 9 => 9 | 2 => 2 | 4 => 4 | 171 => 226 | 0 => 0 | 53 => 77 | 37 => 22 | 5 => 5 | 173 => 229 | 212 => 237 | 51 => 238 | 20 => 20 | 213 => 239 | 46 => 86 | 232 => 254 | 233 => 255 | n => n, fun | 17 => 1 | 18 => 3 | 19 => 4 | n => n⟩
theorem laysM171 : Go.Proofs.LaysM.n171 Tryz.prog laysM171_ren := {
  mixed := by kernel_rfl
  f129 := Tryz.func198.trans (congrArg some (by kernel_rfl))
  f171 := Tryz.func148.trans (congrArg some (by kernel_rfl))
  f243 := Tryz.func173.trans (congrArg some (by kernel_rfl))
  f246 := Tryz.func171.trans (congrArg some (by kernel_rfl))
  f283 := Tryz.func185.trans (congrArg some (by kernel_rfl))
  f284 := Tryz.func186.trans (congrArg some (by kernel_rfl))
  f285 := Tryz.func187.trans (congrArg some (by kernel_rfl))
  f286 := Tryz.func188.trans (congrArg some (by kernel_rfl))
  f317 := Tryz.func197.trans (congrArg some (by kernel_rfl))
  f318 := Tryz.func199.trans (congrArg some (by kernel_rfl))
  f319 := Tryz.func200.trans (congrArg some (by kernel_rfl))
  f320 := Tryz.func201.trans (congrArg some (by kernel_rfl))
  f337 := Tryz.func207.trans (congrArg some (by kernel_rfl))
  f338 := Tryz.func208.trans (congrArg some (by kernel_rfl))
  t0 := Tryz.underlying0
  a0 := Tryz.isAgg0
  z0 := Tryz.sizeOf0
  v0 := Tryz.zeroValue0
  t2 := Tryz.underlying2
  a2 := Tryz.isAgg2
  z2 := Tryz.sizeOf2
  v2 := Tryz.zeroValue2
  t3 := Tryz.underlying3
  a3 := Tryz.isAgg3
  z3 := Tryz.sizeOf3
  v3 := Tryz.zeroValue3
  t4 := Tryz.underlying4
  a4 := Tryz.isAgg4
  z4 := Tryz.sizeOf4
  v4 := Tryz.zeroValue4
  t5 := Tryz.underlying5
  a5 := Tryz.isAgg5
  z5 := Tryz.sizeOf5
  v5 := Tryz.zeroValue5
  t9 := Tryz.underlying9
  a9 := Tryz.isAgg9
  z9 := Tryz.sizeOf9
  v9 := Tryz.zeroValue9
  t20 := Tryz.underlying20
  a20 := Tryz.isAgg20
  z20 := Tryz.sizeOf20
  v20 := Tryz.zeroValue20
  t37 := Tryz.underlying22
  a37 := Tryz.isAgg22
  z37 := Tryz.sizeOf22
  v37 := Tryz.zeroValue22
  t46 := Tryz.underlying86
  a46 := Tryz.isAgg86
  z46 := Tryz.sizeOf86
  v46 := Tryz.zeroValue86
  t51 := Tryz.underlying238
  a51 := Tryz.isAgg238
  z51 := Tryz.sizeOf238
  v51 := Tryz.zeroValue238
  t53 := Tryz.underlying77
  a53 := Tryz.isAgg77
  z53 := Tryz.sizeOf77
  v53 := Tryz.zeroValue77
  t171 := Tryz.underlying226
  a171 := Tryz.isAgg226
  z171 := Tryz.sizeOf226
  v171 := Tryz.zeroValue226
  t173 := Tryz.underlying229
  a173 := Tryz.isAgg229
  z173 := Tryz.sizeOf229
  v173 := Tryz.zeroValue229
  t212 := Tryz.underlying237
  a212 := Tryz.isAgg237
  z212 := Tryz.sizeOf237
  v212 := Tryz.zeroValue237
  t213 := Tryz.underlying239
  a213 := Tryz.isAgg239
  z213 := Tryz.sizeOf239
  t232 := Tryz.underlying254
  a232 := Tryz.isAgg254
  z232 := Tryz.sizeOf254
  v232 := Tryz.zeroValue254
  t233 := Tryz.underlying255
  a233 := Tryz.isAgg255
  z233 := Tryz.sizeOf255
  v233 := Tryz.zeroValue255
  g17 := by kernel_rfl
  g18 := by kernel_rfl
  g19 := by kernel_rfl
  i0 := by kernel_rfl
  i2 := by kernel_rfl
  i3 := by kernel_rfl
  i4 := by kernel_rfl
  i5 := by kernel_rfl
  i9 := by kernel_rfl
  i20 := by kernel_rfl
  i37 := by kernel_rfl
  i46 := by kernel_rfl
  i51 := by kernel_rfl
  i53 := by kernel_rfl
  i171 := by kernel_rfl
  i173 := by kernel_rfl
  i212 := by kernel_rfl
  i232 := by kernel_rfl
  i233 := by kernel_rfl
  m17 := by kernel_rfl
  m18 := by kernel_rfl
  m19 := by kernel_rfl }
end Go.Proofs.YtkaolpnbddjdpaaGreatDoor
namespace Go.Proofs.YtkaolpnbddjdpaaGreatDoor
open Go.ChangeShapes Go.WideShapes Go.ChangeAt Go.RowKit
theorem itoa_any (n : Int) (w : World) (h0 : -9223372036854775808 ≤ n) (h1 : n ≤ 9223372036854775807) (ht : TabOk w) : Calls Tryz.prog 148 #[.int .i64 n] w fun e w' => e = .returned (.string (decS n)) ∧ Below w.heap.size w w' :=
  (Any.strconv_Itoa laysM171 n h0 h1 w ht).mono fun _ _ ⟨he, k, os, hw⟩ => ⟨he, by rw [hw]; exact Lib.below_grow _ _ (Nat.le_refl _) k os⟩
end Go.Proofs.YtkaolpnbddjdpaaGreatDoor
namespace Go.Proofs.YtkaolpnbddjdpaaGreatDoor
open Go.ChangeShapes Go.WideShapes Go.ChangeAt Go.RowKit
set_option maxHeartbeats 1000000 in
theorem digits_any (n : Int) (w : World) (h0 : 0 ≤ n) (h1 : n ≤ 1000000) (ht : TabOk w) : Calls Tryz.prog 109 #[.agg #[.int .i64 n]] w fun e w' => e = .returned (.string (decS n)) ∧ Below w.heap.size w w' := by
  have b0 : Below w.heap.size w (w.alloc (.cells #[.int .i64 n] 113)) := (Below.refl _ _).alloc (Nat.le_refl _) _
  have HT : Hid (TabOk (w.alloc (.cells #[.int .i64 n] 113))) := ht.below b0
  clear ht
  go_enter Tryz.func109, Tryz.ntmps109
  go_wp2_with fail
  refine (fmt_any n _ (by omega) (by omega) HT.out).mono ?_
  rintro e w1 ⟨rfl, hb1⟩
  have HB : Hid (Below w.heap.size w w1) := b0.trans (hb1.mono (by simp))
  clear hb1
  go_wp2
  go_ret
  exact ⟨rfl, HB.out⟩
end Go.Proofs.YtkaolpnbddjdpaaGreatDoor
namespace Go.Proofs.YtkaolpnbddjdpaaGreatDoor
open Go.ChangeShapes Go.WideShapes Go.ChangeAt Go.RowKit
set_option maxRecDepth 20000 in
set_option maxHeartbeats 4000000 in
theorem copySeg_any (tag : ByteArray) (v : Value) (es : List (List ByteArray)) (w : World) (h : RowE w v es) (hl : es.length ≤ 10) (ht : tag.size ≤ 1048576) (hz : ∀ e ∈ es, 0 < e.length ∧ e.length ≤ 4 ∧ ∀ t ∈ e, t.size ≤ 40) :
    Calls Tryz.prog 172 #[.agg #[.string tag, v]] w fun e w' => ∃ u vals, e = .returned (.agg #[.string tag, u]) ∧ OwnV w.heap.size w' u vals es ∧ Below w.heap.size w w' := by
  obtain ⟨A, C, rfl⟩ := h.val
  obtain ⟨j0, hj0i, hi0, hi1, hi2⟩ := info_parts infoElm
  have bx : Below w.heap.size w (w.alloc (.cells #[.string tag, .slice A es.length C] 90)) := (Below.refl _ _).alloc (Nat.le_refl _) _
  have hx0 : (w.alloc (.cells #[.string tag, .slice A es.length C] 90)).cell? ⟨w.heap.size, 0, none⟩ = some (.string tag) := by simp [go_sem]
  have hx1 : (w.alloc (.cells #[.string tag, .slice A es.length C] 90)).cell? ⟨w.heap.size, 1, none⟩ = some (.slice A es.length C) := by simp [go_sem]
  have hxs : (w.alloc (.cells #[.string tag, .slice A es.length C] 90)).heap.size = w.heap.size + 1 := by simp
  have HR : Hid (RowE (w.alloc (.cells #[.string tag, .slice A es.length C] 90)) (.slice A es.length C) es ∧ Below w.heap.size w (w.alloc (.cells #[.string tag, .slice A es.length C] 90))) := ⟨h.below bx, bx⟩
  clear h bx
  go_enter Tryz.func172, Tryz.ntmps172
  go_wp2_with fail
  generalize (w.alloc (.cells #[.string tag, .slice A es.length C] 90)) = W0 at *
  refine (clone_any tag _ (by omega)).mono ?_
  rintro e w1 ⟨rfl, hb1⟩
  have z1 := hb1.size
  have bR : Below W0.heap.size W0 (W0.alloc (.cells #[.string ⟨#[]⟩, .slice none 0 0] 90)) := (Below.refl _ _).alloc (Nat.le_refl _) _
  have hw1 : Below W0.heap.size W0 w1 := bR.trans (hb1.mono (by simp))
  have bG : Below w1.heap.size w1 (w1.alloc (.cells #[.string tag, .slice none 0 0] 90)) := (Below.refl _ _).alloc (Nat.le_refl _) _
  have hr1 : w1.heap[W0.heap.size]? = some (.cells #[.string ⟨#[]⟩, .slice none 0 0] 90) := (hb1.block W0.heap.size (by simp)).trans (World.alloc_heap_new W0 _)
  have hGB : GB W0.heap.size w1.heap.size W0 (w1.alloc (.cells #[.string tag, .slice none 0 0] 90)) tag (.slice none 0 0) [] [] := ⟨(Below.heap_alloc _ _ _ (Array.getElem?_eq_some_iff.1 hr1).1).trans hr1, World.alloc_heap_new w1 _, ⟨rfl, World.ownsRow_nil _ _ _ _, fun i u e hu => by simp at hu, fun i j u x _ hu => by simp at hu⟩, hw1.trans (bG.mono hw1.size), Nat.le_refl _, by have := z1; simp at this; omega⟩
  have HGB : Hid (GB W0.heap.size w1.heap.size W0 (w1.alloc (.cells #[.string tag, .slice none 0 0] 90)) tag (.slice none 0 0) [] []) := hGB
  have x1a := ((hw1.trans (bG.mono hw1.size)).cell (cell_lt hx1)).trans hx1
  clear hb1 bR hw1 bG hr1 hGB
  rw [hxs] at *
  go_wp2_with fail
  go_loopw [16] (fun i wr => ∃ (k : Nat) (u : Value) (vals : List Value), i = .int .i64 (k : Int) ∧ k ≤ es.length ∧ GB (w.heap.size + 1) w1.heap.size W0 wr tag u vals (es.take k)) (fun i _ => es.length - (intOf i).toNat)
  case atStart => exact ⟨0, .slice none 0 0, [], rfl, by omega, HGB.out⟩
  case round =>
    obtain ⟨k, u, vals, rfl, hk, hG⟩ := hrel
    obtain ⟨Au, Nu, Cu, hu⟩ := row_slice hG.own.row
    subst hu
    obtain ⟨c0, c1⟩ := hG.cells
    have hlw := hG.lt
    by_cases hlt : k < es.length
    · have hlt' : (k : Int) < (es.length : Int) := by omega
      obtain ⟨b, o, cap', ss, ue, e, hs, hc, hE⟩ := (HR.out.1.below (hG.bel.mono (by omega))).at hlt
      simp only [Value.slice.injEq, true_and] at e
      obtain ⟨rfl, rfl⟩ := e
      obtain ⟨hz0, hz1, hz2⟩ := hz ss (List.mem_of_getElem? hs)
      obtain ⟨ne, ce, rfl⟩ := hE.val
      have hel : (es.take k).length = k := by rw [List.length_take]; omega
      have hNu : Nu = k := by have := row_n' hG.own.row; omega
      subst hNu
      have hmx : Nu + 1 ≤ maxLen := by unfold maxLen; omega
      have bE : Below wr.heap.size wr (wr.alloc (.cells #[.slice ne ss.length ce] 141)) := (Below.refl _ _).alloc (Nat.le_refl _) _
      have HG : Hid (GB (w.heap.size + 1) w1.heap.size W0 wr tag (.slice Au Nu Cu) vals (es.take Nu) ∧ es[Nu]? = some ss ∧ RowS (wr.alloc (.cells #[.slice ne ss.length ce] 141)) (.slice ne ss.length ce) ss ∧ Below wr.heap.size wr (wr.alloc (.cells #[.slice ne ss.length ce] 141))) := ⟨hG, hs, hE.below bE, bE⟩
      have ec : (wr.alloc (.cells #[.slice ne ss.length ce] 141)).cell? ⟨wr.heap.size, 0, none⟩ = some (.slice ne ss.length ce) := by simp [go_sem]
      clear hG hs hE bE
      go_wp2_with fail
      generalize hWE : (wr.alloc (.cells #[.slice ne ss.length ce] 141)) = WE at *
      clear hWE
      generalize hwo : wr = wo at *
      clear hwo
      obtain ⟨i0, hs0i, hs0, hs1, hs2⟩ := info_parts infoStr
      go_loopw [6, 23] (fun pv i wr => ∃ (j : Nat), i = .int .i64 (j : Int) ∧ j ≤ ss.length ∧ wr.ownsRow WE.heap.size 9 1 pv j ((ss.take j).map Value.string) ∧ Below WE.heap.size WE wr) (fun _ i _ => ss.length - (intOf i).toNat)
      case atStart => exact ⟨0, rfl, by omega, World.ownsRow_nil _ _ _ _, Below.refl _ _⟩
      case round =>
        obtain ⟨j, rfl, hj, hrow, hb⟩ := hrel
        obtain ⟨Ap, Np, Cp, hpv⟩ := row_slice hrow
        subst hpv
        have hNp := row_n' hrow
        subst hNp
        by_cases hlj : Np < ss.length
        · have hlj' : (Np : Int) < (ss.length : Int) := by omega
          obtain ⟨bs, os, caps, t, e3, hst, hct, _⟩ := (HG.out.2.2.1.below hb).at hlj
          simp only [Value.slice.injEq, true_and] at e3
          obtain ⟨rfl, rfl⟩ := e3
          have htz := hz2 t (List.mem_of_getElem? hst)
          have HB : Hid (wr.ownsRow WE.heap.size 9 1 (.slice Ap Np Cp) Np ((ss.take Np).map Value.string) ∧ Below WE.heap.size WE wr ∧ ss[Np]? = some t) := ⟨hrow, hb, hst⟩
          have zw := hb.size
          clear hrow hb hst
          go_wp2_with fail
          refine (clone_any t _ (by omega)).mono ?_
          rintro e w2 ⟨rfl, hb2⟩
          have z2 := hb2.size
          have H2 : Hid (w2.ownsRow WE.heap.size 9 1 (.slice Ap Np Cp) Np ((ss.take Np).map Value.string) ∧ Below WE.heap.size WE w2) := ⟨row_keep HB.out.1 hb2, HB.out.2.1.trans (hb2.mono HB.out.2.1.size)⟩
          clear hb2
          have hmp : Np + 1 ≤ maxLen := by unfold maxLen; omega
          have tok1 : True := trivial
          go_wp2_with (at_builtin; have _t := tok1; refine wpList_append_own _ rfl _ _ 63 rfl WE.heap.size 9 i0 (.string ⟨#[]⟩) 1 16 Tryz.underlying63 hs0i hs0 hs1 hs2 rfl (by decide) _ _ _ rfl (H2.out.1.alloc _) ⟨_, 0, none⟩ 1 1 [.string t] rfl rfl (World.news_of_block (World.alloc_heap_new w2 _)) (by simp [Value.oneCell']) hmp (by omega) (by simp; omega) ?_; intro u' w4 hown' hgrow _; have HW4 : Hid (w4.ownsRow WE.heap.size 9 1 u' (Np + 1) ((ss.take (Np + 1)).map Value.string) ∧ Below WE.heap.size WE w4) := ⟨(by rw [List.take_add_one, HB.out.2.2]; simpa using hown'), ⟨hgrow.os.trans H2.out.2.os, hgrow.tape.trans H2.out.2.tape, hgrow.output.trans H2.out.2.output, Nat.le_trans H2.out.2.size (Nat.le_trans (by simp) hgrow.size), fun q hq => (hgrow.block q (by simp; omega) (row_lt H2.out.1 hq)).trans ((Below.heap_alloc _ _ _ (by omega)).trans (H2.out.2.block q hq))⟩⟩; clear tok1 hown' hgrow)
          go_roundw
          case rel => exact ⟨Np + 1, by go_num, by omega, HW4.out⟩
          case measure => simp [intOf]; omega
        · obtain rfl : Np = ss.length := by omega
          rw [List.take_length] at hrow
          have z3 := HG.out.2.2.2.size
          have zE := hb.size
          have hwE : Below wo.heap.size wo wr := HG.out.2.2.2.trans (hb.mono z3)
          have G3 := HG.out.1.below hwE
          obtain ⟨f0, f1⟩ := G3.cells
          have rowN : wr.ownsRow (w1.heap.size + 1) 141 1 (.slice Au Nu Cu) Nu vals := by have := G3.own.row; rwa [hel] at this
          have l3 := G3.lt
          have H3 : Hid (wr.ownsRow wo.heap.size 9 1 (.slice Ap ss.length Cp) ss.length (ss.map Value.string) ∧ Below wo.heap.size wo wr) := ⟨row_mono hrow z3, hwE⟩
          clear hrow hb hwE G3
          have tok1 : True := trivial
          go_wp2_with (at_builtin; have _t := tok1; refine wpList_append_own _ rfl _ _ 88 rfl (w1.heap.size + 1) 141 j0 (.agg #[.slice none 0 0]) 1 24 Tryz.underlying88 hj0i hi0 hi1 hi2 rfl (by decide) _ _ _ rfl (rowN.alloc _) ⟨_, 0, none⟩ 1 1 [.slice Ap ss.length Cp] rfl rfl (World.news_of_block (World.alloc_heap_new wr _)) (by simp [Value.oneCell']) hmx (by omega) (by simp; omega) ?_; intro u' w4 hown' hgrow _; obtain ⟨⟨z0, zf⟩, hG4⟩ := (HG.out.1.push (x := .slice Ap ss.length Cp) (e := ss) H3.out.2 H3.out.1 hz0 ((Below.refl _ _).alloc (Nat.le_refl _) _) (by rw [hel]; exact hown') hgrow); obtain ⟨A4, N4, C4, hu4⟩ := row_slice hown'; subst hu4; have HG4 : Hid (GB (w.heap.size + 1) w1.heap.size W0 (w4.setCell ⟨w1.heap.size, 1, none⟩ (.slice A4 N4 C4)) tag (.slice A4 N4 C4) (vals ++ [.slice Ap ss.length Cp]) (es.take Nu ++ [ss])) := hG4; have l4 := cell_lt z0; clear tok1 hown' hgrow hG4)
          go_roundw
          case rel =>
            refine ⟨Nu + 1, .slice A4 N4 C4, vals ++ [.slice Ap ss.length Cp], by go_num, by omega, ?_⟩
            have e1 : es.take (Nu + 1) = es.take Nu ++ [ss] := by
              rw [List.take_add_one, HG.out.2.1]
              rfl
            rw [e1]
            exact HG4.out
          case measure => simp [intOf]; omega
    · obtain rfl : k = es.length := by omega
      have hr := hG.r
      have r0 : wr.cell? ⟨w.heap.size + 1, 0, none⟩ = some (.string ⟨#[]⟩) := by simp [World.cell?, hr]
      have r1 : wr.cell? ⟨w.heap.size + 1, 1, none⟩ = some (.slice none 0 0) := by simp [World.cell?, hr]
      have rz : ∀ o, wr.frozen? ⟨w.heap.size + 1, o, none⟩ = false := fun o => by simp [World.frozen?, hr]
      have hO := hG.own
      rw [List.take_length] at hO
      have q2 := hG.rb
      have HF : Hid (OwnV (w1.heap.size + 1) wr (.slice Au Nu Cu) vals es ∧ Below w.heap.size w wr) := ⟨hO, HR.out.2.trans (hG.bel.mono HR.out.2.size)⟩
      clear hG hr hO
      go_wp2
      exact bodyPost_ret (v := .agg #[.string tag, .slice Au Nu Cu]) (by simp [results, Tryz.results172, go_sem, r0, r1]) rfl ⟨_, vals, rfl, ((HF.out.1.set (by omega) _ _).set (by omega) _ _).mono (by omega), (HF.out.2.setCell (show w.heap.size ≤ w.heap.size + 1 by omega) _).setCell (show w.heap.size ≤ w.heap.size + 1 by omega) _⟩
end Go.Proofs.YtkaolpnbddjdpaaGreatDoor
namespace Go.Proofs.YtkaolpnbddjdpaaGreatDoor
open Go.ChangeShapes Go.WideShapes Go.ChangeAt Go.RowKit
theorem TabOk.drewD {w : World} (h : TabOk w) : TabOk w.drew := h.below (Below.refl _ _).drew
/-- The answer's block, zero still. -/
structure RZ (R : Nat) (w W : World) : Prop where
  r : W.heap[R]? = some (.cells #[.string ⟨#[]⟩, .slice none 0 0] 90)
  bel : Below w.heap.size w W
  tab : TabOk W
  wr : w.heap.size ≤ R
theorem RZ.below {R : Nat} {w W W' : World} (h : RZ R w W) (hb : Below W.heap.size W W') : RZ R w W' := ⟨(hb.block _ (Array.getElem?_eq_some_iff.1 h.r).1).trans h.r, h.bel.trans (hb.mono h.bel.size), h.tab.below hb, h.wr⟩
theorem RZ.drew {R : Nat} {w W : World} (h : RZ R w W) : RZ R w W.drew := h.below (Below.refl _ _).drew
theorem RZ.lt {R : Nat} {w W : World} (h : RZ R w W) : R < W.heap.size := (Array.getElem?_eq_some_iff.1 h.r).1
theorem RZ.cells {R : Nat} {w W : World} (h : RZ R w W) : W.cell? ⟨R, 0, none⟩ = some (.string ⟨#[]⟩) ∧ W.cell? ⟨R, 1, none⟩ = some (.slice none 0 0) ∧ ∀ o, W.frozen? ⟨R, o, none⟩ = false := by
  have := h.r
  exact ⟨by simp [World.cell?, this], by simp [World.cell?, this], fun o => by simp [World.frozen?, this]⟩
set_option maxRecDepth 20000 in
set_option maxHeartbeats 2000000 in
theorem trailer_any (n k : Int) (tag : ByteArray) (w : World) (h0 : 0 ≤ n) (h1 : n ≤ 1000000) (hk0 : 0 ≤ k) (hk1 : k ≤ 1000000) (ht : TabOk w) : Calls Tryz.prog 112 #[.agg #[.int .i64 n], .string tag, .int .i64 k] w fun e w' => ∃ u vals, e = .returned (.agg #[.string tag, u]) ∧ OwnV w.heap.size w' u vals ([decS k, decS n].map fun t => [t]) ∧ Below w.heap.size w w' := by
  have b0 : Below w.heap.size w ((w.alloc (.cells #[.int .i64 n] 113)).alloc (.cells #[.string ⟨#[]⟩, .slice none 0 0] 90)) := ((Below.refl _ _).alloc (Nat.le_refl _) _).alloc (by simp) _
  have hZ : RZ (w.heap.size + 1) w ((w.alloc (.cells #[.int .i64 n] 113)).alloc (.cells #[.string ⟨#[]⟩, .slice none 0 0] 90)) := ⟨heap_new2 w _ _, b0, ht.below b0, by omega⟩
  have hh : ((w.alloc (.cells #[.int .i64 n] 113)).alloc (.cells #[.string ⟨#[]⟩, .slice none 0 0] 90)).cell? ⟨w.heap.size, 0, none⟩ = some (.int .i64 n) := by simp [go_sem]
  have sk := decS_size k hk0 hk1
  have sn := decS_size n h0 h1
  clear ht b0
  go_enter Tryz.func112, Tryz.ntmps112
  go_wp2_with fail
  generalize ((w.alloc (.cells #[.int .i64 n] 113)).alloc (.cells #[.string ⟨#[]⟩, .slice none 0 0] 90)) = W0 at *
  have HZ : Hid (RZ (w.heap.size + 1) w W0) := hZ
  clear hZ
  generalize hDk : decS k = Dk at *
  generalize hDn : decS n = Dn at *
  have HD : Hid (decS k = Dk ∧ decS n = Dn) := ⟨hDk, hDn⟩
  clear hDk hDn
  go_region_law (first | (go_simp; go_at_call 148; refine (itoa_any k _ (by omega) (by omega) (by first | exact HZ.out.tab | exact HZ.out.tab.drewD)).mono ?_; rintro e w1 ⟨rfl, hb⟩; rw [HD.out.1]; have hb1 : Below W0.heap.size W0 w1 := (by first | exact hb | exact (Below.refl _ _).drew.trans hb); clear hb; have hh1 := (hb1.cell (cell_lt hh)).trans hh; have H1 : Hid (RZ (w.heap.size + 1) w w1) := HZ.out.below hb1; clear hb1; try dsimp only) | (go_simp; go_at_call 109; refine (digits_any n _ h0 h1 (by first | exact H1.out.tab | exact H1.out.tab.drewD)).mono ?_; rintro e w2 ⟨rfl, hb⟩; rw [HD.out.2]; have hb2 : Below w1.heap.size w1 w2 := (by first | exact hb | exact (Below.refl _ _).drew.trans hb); clear hb; have hh2 := (hb2.cell (cell_lt hh1)).trans hh1; have H2 : Hid (RZ (w.heap.size + 1) w w2) := H1.out.below hb2; clear hb2; try dsimp only) | (go_simp; go_at_call 108; refine (segmentBy_any tag _ [Dk, Dn] _ (by first | exact row2s w2 Dk Dn (by omega) (by omega) | exact (row2s w2 Dk Dn (by omega) (by omega)).below (Below.refl _ _).drew) (by simp) (by intro t ht; simp at ht; rcases ht with rfl | rfl <;> omega)).mono ?_; rintro e w3 ⟨u3, vals3, rfl, hO3, hb⟩; obtain ⟨A3, N3, C3, hu3⟩ := row_slice hO3.row; subst hu3; have hb3 : Below w2.heap.size w2 w3 := (((Below.refl _ w2).alloc (Nat.le_refl _) (.cells #[.string Dk, .string Dn] 9)).trans ((by first | exact hb | exact (Below.refl _ _).drew.trans hb : Below (w2.alloc (.cells #[.string Dk, .string Dn] 9)).heap.size (w2.alloc (.cells #[.string Dk, .string Dn] 9)) w3).mono (by simp))); have H3 : Hid (RZ (w.heap.size + 1) w w3 ∧ OwnV (w.heap.size + 2) w3 (.slice A3 N3 C3) vals3 ([Dk, Dn].map fun t => [t])) := ⟨H2.out.below hb3, hO3.mono (by have := H2.out.lt; simp; omega)⟩; obtain ⟨r0, r1, rz⟩ := H3.out.1.cells; clear hb hb3 hO3; try dsimp only))
  all_goals
    go_wp2
    exact bodyPost_ret (v := .agg #[.string tag, .slice A3 N3 C3]) (by simp [results, Tryz.results112, go_sem, r0, r1]) rfl ⟨_, vals3, rfl, by rw [HD.out.1, HD.out.2]; exact ((H3.out.2.set (by omega) _ _).set (by omega) _ _).mono (by omega), (H3.out.1.bel.setCell (show w.heap.size ≤ w.heap.size + 1 by omega) _).setCell (show w.heap.size ≤ w.heap.size + 1 by omega) _⟩
end Go.Proofs.YtkaolpnbddjdpaaGreatDoor
namespace Go.Proofs.YtkaolpnbddjdpaaGreatDoor
open Go.ChangeShapes Go.WideShapes Go.ChangeAt Go.RowKit
theorem right_bounds {tag : ByteArray} {es : List (List ByteArray)} (h : rightG tag es = true) : tag.size = 3 ∧ es.length ≤ 10 ∧ ∀ e ∈ es, 0 < e.length ∧ e.length ≤ 4 ∧ ∀ t ∈ e, t.size ≤ 40 := by
  unfold rightG tagB at h
  simp only [Bool.and_eq_true, decide_eq_true_eq, List.all_eq_true] at h
  refine ⟨h.1.1, h.2.1, fun e he => ?_⟩
  have hb := h.2.2.2 e he
  unfold elB at hb
  simp only [Bool.and_eq_true, decide_eq_true_eq, List.all_eq_true] at hb
  refine ⟨by omega, hb.2.1, fun t ht => ?_⟩
  have := hb.2.2.2 t ht
  unfold partB at this
  simp only [Bool.and_eq_true, decide_eq_true_eq] at this
  exact this.1
end Go.Proofs.YtkaolpnbddjdpaaGreatDoor
