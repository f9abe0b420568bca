/- Texts of ours put together: GtP, PnI. -/
import Derived.Test.YtagajindaipaeaaGreatG03
import Derived.Test.YtagajindaipaeaaGreatG34
import Derived.Test.YtagajindaipaeaaGreatG35
import Derived.Test.YtagajindaipaeaaGreatG20
namespace Go.Proofs.YtagajindaipaeaaGreat
open Go.ChangeShapes Go.WideShapes Go.ChangeAt Go.RowKit
/-- One of rising Partners, at its place. -/
structure OkP (ps : List Ptn) (k : Nat) (p : Ptn) : Prop where
  ok : ptnB p = true
  rise : ∀ d, 0 < k → ps[k - 1]? = some d → Op.bytesLess d.name.toList p.name.toList = true
structure RightP (ps : List Ptn) : Prop where
  len : ps.length ≤ 20
  at_ : ∀ i p, ps[i]? = some p → OkP ps i p
open Classical in
noncomputable def ptsB (ps : List Ptn) : Bool := decide (RightP ps)
theorem ptsB_yes {ps : List Ptn} (h : RightP ps) : ptsB ps = true := by simp [ptsB, h]
theorem ptsB_no {ps : List Ptn} (h : ¬ RightP ps) : ptsB ps = false := by simp [ptsB, h]
theorem ptsB_iff {ps : List Ptn} : ptsB ps = true ↔ RightP ps := by simp [ptsB]
theorem ptnB_name {p : Ptn} (h : ptnB p = true) : nameB p.name = true := by
  simp only [ptnB, Bool.and_eq_true] at h
  exact h.1
def dfB (g : Gat) : Bool := decide (g.dffs.length ≤ 200)
noncomputable def gtB (g : Gat) : Bool := nameB g.name && (dayB g.day && (ptsB g.ptns && (rightB g.crss && (bkB g.book && (dfB g && ousB g.outs)))))
theorem bl_firstG {t : ByteArray} (h : nameB t = true) : Op.bytesLess (ByteArray.toList ⟨#[]⟩) t.toList = true := by
  have h1 := (nameB_sizes h).1
  cases hl : t.data.toList with
  | nil =>
    have : t.data.toList.length = 0 := by rw [hl]; rfl
    have e : t.size = t.data.toList.length := by simp
    omega
  | cons x r => rw [ByteArray.toList_eq, ByteArray.toList_eq, hl]; rfl
theorem bl_neG {a b : List UInt8} (h : Op.bytesLess a b = true) : (b == a) = false := by
  cases e : b == a with
  | false => rfl
  | true =>
    rw [beq_iff_eq] at e
    rw [e, bl_irrefl] at h
    cases h
theorem ptp_lt {rs : List Ptn} {k : Nat} {c : Ptn} {s : ByteArray} (h : OkP rs k c) (hk : k ≤ rs.length) (h0 : k = 0 → s = ⟨#[]⟩) (h1 : ∀ d, 0 < k → rs[k - 1]? = some d → d.name = s) : Op.bytesLess s.toList c.name.toList = true := by
  rcases Nat.eq_zero_or_pos k with g | g
  · rw [h0 g]
    exact bl_firstG (ptnB_name h.ok)
  · have e := List.getElem?_eq_getElem (l := rs) (i := k - 1) (by omega)
    have := h.rise _ g e
    rw [← h1 _ g e]
    exact this
theorem ptp_ok {rs : List Ptn} {k : Nat} {c : Ptn} {s : ByteArray} (ho : ptnB c = true) (hx : Op.bytesLess c.name.toList s.toList = false) (hy : (c.name.toList == s.toList) = false) (h1 : ∀ d, 0 < k → rs[k - 1]? = some d → d.name = s) : OkP rs k c := by
  refine ⟨ho, fun d h0 hd => ?_⟩
  rw [h1 d h0 hd]
  cases e : Op.bytesLess s.toList c.name.toList with
  | true => rfl
  | false =>
    have := bl_tri hx e
    rw [this] at hy
    simp at hy
end Go.Proofs.YtagajindaipaeaaGreat
namespace Go.Proofs.YtagajindaipaeaaGreat
open Go.ChangeShapes Go.WideShapes Go.ChangeAt Go.RowKit
theorem isCode_any (n : Int) (w : World) : Calls Tryz.prog 179 #[.int .i64 n] w fun e w' => e = .returned (.bool (codeB n)) ∧ w' = w := by
  by_cases h1 : 0 ≤ n
  · by_cases h2 : n ≤ 13
    · go_enter Tryz.func179, Tryz.ntmps179
      go_wp2
      go_ret
      exact ⟨ret_bool (by simp [codeB, h1, h2]), rfl⟩
    · go_enter Tryz.func179, Tryz.ntmps179
      go_wp2
      go_ret
      exact ⟨ret_bool (by simp [codeB, h1, h2]), rfl⟩
  · go_enter Tryz.func179, Tryz.ntmps179
    go_wp2
    go_ret
    exact ⟨ret_bool (by simp [codeB]; omega), rfl⟩
set_option maxHeartbeats 4000000 in
theorem seenRight_any (low : Int) (v : Value) (rs : List Sn) (w : World) (h : RowSn w v rs) (hl : 1 ≤ low ∧ low ≤ 999999) : Calls Tryz.prog 153 #[.int .i64 low, v] w fun e w' => e = .returned (.bool (seenB low low rs)) ∧ Below w.heap.size w w' := by
  have hlen := h.len
  obtain ⟨A, C, rfl⟩ := h.val
  have HR : Hid (RowSn w (.slice A rs.length C) rs) := h
  clear h
  obtain ⟨hl1, hl2⟩ := hl
  go_enter Tryz.func153, Tryz.ntmps153
  go_wp2
  go_loopw [5, 11] (fun l i wr => ∃ (k : Nat) (z : Int), l = .int .i64 z ∧ i = .int .i64 (k : Int) ∧ k ≤ rs.length ∧ 1 ≤ z ∧ z ≤ 1000000 ∧ seenB low low rs = seenB low z (rs.drop k) ∧ Below w.heap.size w wr) (fun _ i _ => rs.length - (intOf i).toNat)
  case atStart => exact ⟨0, low, rfl, rfl, by omega, by omega, by omega, by simp, Below.refl _ _⟩
  case round =>
    obtain ⟨k, z, rfl, rfl, hk, hz1, hz2, hE, hb⟩ := hrel
    have HE : Hid (seenB low low rs = seenB low z (rs.drop k) ∧ Below w.heap.size w wr) := ⟨hE, hb⟩
    clear hE
    by_cases hlt : k < rs.length
    · have hlt' : (k : Int) < (rs.length : Int) := by omega
      obtain ⟨b, o, cap', g, e, hs, ⟨q0, q1, q2⟩⟩ := (HR.out.below hb).at hlt
      simp only [Value.slice.injEq, true_and] at e
      obtain ⟨rfl, rfl⟩ := e
      have HS : Hid (rs[k]? = some g) := hs
      clear hs hb
      obtain ⟨num, ans, cod⟩ := g
      dsimp only at q0 q1 q2
      have bA : Below w.heap.size w (wr.alloc (.cells #[.int .i64 num, .int .i64 ans, .int .i64 cod] 170)) := HE.out.2.alloc HE.out.2.size _
      by_cases c1 : num < z
      · go_wp2
        go_ret
        exact ⟨ret_bool (by rw [HE.out.1, seen_step HS.out]; simp [snB]; intro; omega), bA⟩
      by_cases c2 : low + 32 ≤ num
      · go_wp2
        go_ret
        exact ⟨ret_bool (by rw [HE.out.1, seen_step HS.out]; simp [snB]; intro; omega), bA⟩
      by_cases c3 : 999999 < num
      · go_wp2
        go_ret
        exact ⟨ret_bool (by rw [HE.out.1, seen_step HS.out]; simp [snB]; intro; omega), bA⟩
      have c1' : ¬ num < z := c1
      have c2' : num < low + 32 := by omega
      have HF : Hid (snB low z ⟨num, ans, cod⟩ = (ctlB ans && codeB cod)) := by
        have : z ≤ num := by omega
        have h3 : num ≤ 999999 := by omega
        simp [Hid, snB, this, c2', h3]
      go_wp2_with fail
      refine (isControl_any ans _).mono ?_
      rintro e w2 ⟨rfl, rfl⟩
      cases hc : ctlB ans
      · go_wp2
        go_ret
        exact ⟨ret_bool (by rw [HE.out.1, seen_step HS.out, HF.out, hc]; rfl), bA⟩
      · go_wp2_with fail
        refine (isCode_any cod _).mono ?_
        rintro e w3 ⟨rfl, rfl⟩
        cases hd : codeB cod
        · go_wp2
          go_ret
          exact ⟨ret_bool (by rw [HE.out.1, seen_step HS.out, HF.out, hc, hd]; rfl), bA⟩
        · go_wp2
          go_roundw
          case rel => exact ⟨k + 1, num + 1, by go_num, by go_num, by omega, by omega, by omega, by rw [HE.out.1, seen_step HS.out, HF.out, hc, hd]; rfl, bA⟩
          case measure => simp [intOf]; omega
    · obtain rfl : k = rs.length := by omega
      clear hb
      go_wp2
      go_ret
      exact ⟨ret_bool (by rw [HE.out.1, seen_end]), HE.out.2⟩
set_option maxHeartbeats 2000000 in
theorem ptRight_impl (p : Ptn) (v : Value) (w : World) (h : RPt w v p) : Calls Tryz.prog 127 #[.agg #[.string p.name, .int .i64 p.low, .int .i64 p.next, v]] w fun e w' => e = .returned (.bool (ptnB p)) ∧ Below w.heap.size w w' := by
  obtain ⟨name, low, next, rs⟩ := p
  have hlen := h.ls.len
  obtain ⟨A, C, rfl⟩ := h.ls.val
  dsimp only at h hlen ⊢
  have b0 : Below w.heap.size w (w.alloc (.cells #[.string name, .int .i64 low, .int .i64 next, .slice A rs.length C] 70)) := (Below.refl _ _).alloc (Nat.le_refl _) _
  have HR : Hid (RowSn (w.alloc (.cells #[.string name, .int .i64 low, .int .i64 next, .slice A rs.length C] 70)) (.slice A rs.length C) rs ∧ Below w.heap.size w (w.alloc (.cells #[.string name, .int .i64 low, .int .i64 next, .slice A rs.length C] 70))) := ⟨h.ls.below b0, b0⟩
  clear h b0
  go_enter Tryz.func127, Tryz.ntmps127
  go_wp2_with fail
  refine (isName_any name _).mono ?_
  rintro e w1 ⟨rfl, rfl⟩
  cases hn : nameB name
  · go_wp2
    go_ret
    exact ⟨ret_bool (by simp [ptnB, hn]), HR.out.2⟩
  go_wp2_with fail
  refine (isControl_any low _).mono ?_
  rintro e w1 ⟨rfl, rfl⟩
  cases hl : ctlB low
  · go_wp2
    go_ret
    exact ⟨ret_bool (by simp [ptnB, hl]), HR.out.2⟩
  go_wp2_with fail
  refine (isControl_any next _).mono ?_
  rintro e w1 ⟨rfl, rfl⟩
  cases hx : ctlB next
  · go_wp2
    go_ret
    exact ⟨ret_bool (by simp [ptnB, hx]), HR.out.2⟩
  go_wp2_with fail
  refine (seenRight_any low _ rs _ HR.out.1 (ctlB_iff.1 hl)).mono ?_
  rintro e w2 ⟨rfl, hb2⟩
  have HB : Hid (Below w.heap.size w w2) := HR.out.2.trans (hb2.mono (by simp))
  clear hb2
  go_wp2
  go_ret
  exact ⟨ret_bool (by simp [ptnB, hn, hl, hx]), HB.out⟩
end Go.Proofs.YtagajindaipaeaaGreat
