/- Texts of ours put together: GtL, GtX. -/
import Derived.Test.YtagajindaipaeaaGreatG28
import Derived.Test.YtagajindaipaeaaGreatG17
import Derived.Test.YtagajindaipaeaaGreatG36
import Derived.Test.YtagajindaipaeaaGreatG30
import Derived.Test.YtagajindaipaeaaGreatG16
import Derived.Test.YtagajindaipaeaaGreatG46
import Derived.Deep.RegionLaw
import Derived.Deep.Cut
import Derived.Deep.CutRange
namespace Go.Proofs.YtagajindaipaeaaGreat
open Go.ChangeShapes Go.WideShapes Go.ChangeAt Go.RowKit
theorem lsn_of_owns {W : World} {base : Nat} {v : Value} {rs : List Sn} (h : W.ownsRow base 170 3 v rs.length (clSns rs)) (hl : rs.length ≤ 9223372036854775807) : LSn (blkS v) W v rs := by
  rcases h.2 with ⟨rfl, h0⟩ | ⟨b, cap, cur, rfl, hb, hh, hc, hm, hs, ht⟩
  · exact ⟨⟨none, 0, by rw [h0], fun hn => absurd (List.eq_nil_of_length_eq_zero h0) hn⟩, hl⟩
  · refine ⟨⟨_, _, rfl, fun _ => ⟨rfl, cap * 3, fun i => cur[i]?.getD undef, ⟨cur, hh, hs, fun i hi => by simp [hs, hi]⟩, Nat.mul_le_mul_right _ hc, fun i g hi => ?_⟩⟩, hl⟩
    obtain ⟨e0, e1, e2⟩ := clSns_at hi
    have hlt := (List.getElem?_eq_some_iff.1 hi).1
    rw [← ht] at e0 e1 e2
    have get : ∀ (j : Nat) (x : Value), j < rs.length * 3 → (cur.toList.take (rs.length * 3))[j]? = some x → cur[j]?.getD undef = x := fun j x hj hx => by
      rw [List.getElem?_take_of_lt hj, Array.getElem?_toList] at hx
      rw [hx]
      rfl
    exact ⟨get _ _ (by omega) e0, get _ _ (by omega) e1, get _ _ (by omega) e2⟩
theorem own_blkS {W : World} {base : Nat} {v : Value} {rs : List Sn} (h : W.ownsRow base 170 3 v rs.length (clSns rs)) (hn : rs ≠ []) : v.ownBlock = some (blkS v) ∧ base ≤ blkS v := by
  rcases h.2 with ⟨rfl, h0⟩ | ⟨b, cap, cur, rfl, hb, _⟩
  · exact absurd (List.eq_nil_of_length_eq_zero h0) hn
  · exact ⟨rfl, hb⟩
theorem lpt_of_ownP {n : Nat} {W : World} {v : Value} {qs : List (Ptn × Value)} (h : OwnP n W v qs) (hl : qs.length ≤ 9223372036854775807) (hz : ∀ q ∈ qs, q.1.name.size ≤ 9223372036854775807 ∧ q.1.seen.length ≤ 9223372036854775807) : ∃ b f β, LPt W v (qs.map Prod.fst) b f β ∧ ∀ k, blkP (qs.map Prod.fst) b β k → n ≤ k := by
  have hget : ∀ {i : Nat} {p : Ptn}, (qs.map Prod.fst)[i]? = some p → ∃ q, qs[i]? = some q ∧ q.1 = p := fun {i p} hi => by
    rw [List.getElem?_map] at hi
    obtain ⟨q, hq, rfl⟩ := Option.map_eq_some_iff.1 hi
    exact ⟨q, hq, rfl⟩
  obtain ⟨f, hf⟩ : ∃ f : Nat → Value, ∀ i q, qs[i]? = some q → f i = q.2 := ⟨fun i => ((qs[i]?).map Prod.snd).getD (.slice none 0 0), fun i q hq => by simp [hq]⟩
  have hsn : ∀ (i : Nat) (p : Ptn), (qs.map Prod.fst)[i]? = some p → LSn (blkS (f i)) W (f i) p.seen := fun i p hi => by
    obtain ⟨q, hq, rfl⟩ := hget hi
    have hm := List.mem_of_getElem? hq
    rw [hf i q hq]
    exact lsn_of_owns (h.sn q hm) (hz q hm).2
  have hap : ∀ (i j : Nat) (p q : Ptn), i ≠ j → (qs.map Prod.fst)[i]? = some p → (qs.map Prod.fst)[j]? = some q → p.seen ≠ [] → q.seen ≠ [] → blkS (f i) ≠ blkS (f j) := fun i j p q hij hi hj hp hq => by
    obtain ⟨x, hx, rfl⟩ := hget hi
    obtain ⟨y, hy, rfl⟩ := hget hj
    rw [hf i x hx, hf j y hy]
    have bx := (own_blkS (h.sn x (List.mem_of_getElem? hx)) hp).1
    have by' := (own_blkS (h.sn y (List.mem_of_getElem? hy)) hq).1
    have hpw := h.ap
    rw [List.pairwise_iff_getElem] at hpw
    obtain ⟨li, ei⟩ := List.getElem?_eq_some_iff.1 hx
    obtain ⟨lj, ej⟩ := List.getElem?_eq_some_iff.1 hy
    intro e
    rcases Nat.lt_or_gt_of_ne hij with g | g
    · have := hpw i j li lj g
      rw [ei, ej] at this
      exact this _ bx (by rw [by', e])
    · have := hpw j i lj li g
      rw [ei, ej] at this
      exact this _ by' (by rw [bx, e])
  have hnm : ∀ (i : Nat) (p : Ptn), (qs.map Prod.fst)[i]? = some p → p.name.size ≤ 9223372036854775807 := fun i p hi => by
    obtain ⟨q, hq, rfl⟩ := hget hi
    exact (hz q (List.mem_of_getElem? hq)).1
  have hbl : ∀ (i : Nat) (p : Ptn), (qs.map Prod.fst)[i]? = some p → p.seen ≠ [] → n ≤ blkS (f i) := fun i p hi hp => by
    obtain ⟨q, hq, rfl⟩ := hget hi
    rw [hf i q hq]
    exact (own_blkS (h.sn q (List.mem_of_getElem? hq)) hp).2
  rcases h.row.2 with ⟨rfl, h0⟩ | ⟨b, cap, cur, rfl, hb, hh, hc, hm, hs, ht⟩
  · have : qs = [] := List.eq_nil_of_length_eq_zero h0
    subst this
    exact ⟨n, f, fun i => blkS (f i), ⟨⟨none, 0, rfl, fun hn => absurd rfl hn⟩, hsn, hap, by simp, hnm⟩, fun k hk => by
      rcases hk with ⟨_, hn⟩ | ⟨i, p, hi, _⟩
      · exact absurd rfl hn
      · simp at hi⟩
  · refine ⟨b, f, fun i => blkS (f i), ⟨⟨_, cap, by rw [List.length_map], fun _ => ⟨rfl, cap * 4, fun i => cur[i]?.getD undef, ⟨cur, hh, hs, fun i hi => by simp [hs, hi]⟩, by rw [List.length_map]; exact Nat.mul_le_mul_right _ hc, fun i p hi => ?_⟩⟩, hsn, hap, by simpa using hl, hnm⟩, fun k hk => ?_⟩
    · obtain ⟨q, hq, rfl⟩ := hget hi
      obtain ⟨e0, e1, e2, e3⟩ := clPs_at hq
      have hlt := (List.getElem?_eq_some_iff.1 hq).1
      rw [← ht] at e0 e1 e2 e3
      have get : ∀ (j : Nat) (x : Value), j < qs.length * 4 → (cur.toList.take (qs.length * 4))[j]? = some x → cur[j]?.getD undef = x := fun j x hj hx => by
        rw [List.getElem?_take_of_lt hj, Array.getElem?_toList] at hx
        rw [hx]
        rfl
      rw [hf i q hq]
      exact ⟨get _ _ (by omega) e0, get _ _ (by omega) e1, get _ _ (by omega) e2, get _ _ (by omega) e3⟩
    · rcases hk with ⟨rfl, _⟩ | ⟨i, p, hi, hp, rfl⟩
      · exact hb
      · exact hbl i p hi hp
theorem lgt_of_ogt {n : Nat} {W : World} {up uc us ul ud uo : Value} {g : Gat} {qs : List (Ptn × Value)} {bc bs bl bd bo : Nat} (h : OGt n W up uc us ul ud uo g qs bc bs bl bd bo) (hP : BdGt 1048576 g) : ∃ b f β, LGt W up uc us ul ud uo g b f β bc bs bl bd bo ∧ ∀ k, blkG g b β bc bs bl bd bo k → n ≤ k := by
  have hb := bdp hP
  have hq := h.qm
  have hl := congrArg List.length hq
  rw [List.length_map] at hl
  obtain ⟨b, f, β, k0, l0⟩ := lpt_of_ownP h.pt (by omega) (fun q hm => by
    have := hb.2 q.1 (by rw [← hq]; exact List.mem_map_of_mem hm)
    omega)
  rw [hq] at k0 l0
  obtain ⟨g1, g2, g3, g4, g5⟩ := h.gc
  refine ⟨b, f, β, ⟨h.nm, k0, h.cs, h.st, h.ln, h.df, h.ou⟩, fun k hk => ?_⟩
  rcases hk with hk | ⟨rfl, _⟩ | ⟨rfl, _⟩ | ⟨rfl, _⟩ | ⟨rfl, _⟩ | ⟨rfl, _⟩
  · exact l0 k hk
  all_goals assumption
/-- What a call that answers a gate leaves. -/
def AnsG (w : World) (q : Gat) (e : Ending) (w' : World) : Prop := ∃ up uc us ul ud uo b f β bc bs bl bd bo, e = .returned (.agg #[.string q.name, .int .i64 q.day, up, uc, us, ul, ud, uo]) ∧ LGt w' up uc us ul ud uo q b f β bc bs bl bd bo ∧ (∀ k, blkG q b β bc bs bl bd bo k → w.heap.size ≤ k) ∧ Below w.heap.size w w'
def AnsGS (w : World) (q : Gat) (e : Ending) (w' : World) : Prop := ∃ up uc us ul ud uo, e = .returned (.agg #[.string q.name, .int .i64 q.day, up, uc, us, ul, ud, uo]) ∧ RGt w' up uc us ul ud uo q ∧ Below w.heap.size w w'
/-- The day behind. -/
noncomputable def nextG (g : Gat) : Gat := ⟨g.name, g.day + 1, g.ptns, g.crss, g.book, g.dffs, (tckO g.outs g.day).list⟩
open Classical in
noncomputable def nxtG (g : Gat) : Gat := if gtB g = true ∧ g.day ≠ 100000 then nextG g else g
theorem nxtG_yes {g : Gat} (h : gtB g = true) (hd : g.day ≠ 100000) : nxtG g = nextG g := if_pos ⟨h, hd⟩
theorem nxtG_no {g : Gat} (h : gtB g = false) : nxtG g = g := if_neg (fun x => by rw [h] at x; cases x.1)
theorem nxtG_last {g : Gat} (h : g.day = 100000) : nxtG g = g := if_neg (fun x => x.2 h)
theorem gtB_day {g : Gat} (h : gtB g = true) : 0 ≤ g.day ∧ g.day ≤ 100000 := by
  simp only [gtB, Bool.and_eq_true] at h
  exact dayB_iff.1 h.2.1
theorem cntG_nxt (g : Gat) : cntG (nxtG g) ≤ cntG g := by
  unfold nxtG
  split
  · have := (tckO_len g.outs g.day).1
    simp only [cntG, nextG]
    omega
  · exact Nat.le_refl _
end Go.Proofs.YtagajindaipaeaaGreat
namespace Go.Proofs.YtagajindaipaeaaGreat
open Go.ChangeShapes Go.WideShapes Go.ChangeAt Go.RowKit
open Go.MuLone
theorem fldOo (a b c : Option Addr) (n m k n' m' k' : Nat) (z : Int) (w : World) : (Instr.field 54 (.agg #[.slice a n n', .slice b m m', .slice c k k', .int .i64 z]) 0).run Tryz.prog w = .ok (.slice a n n') w := by kernel_rfl
theorem st10_9 {W : World} {b t : Nat} {x0 x1 x2 x3 x4 x5 x6 x7 x8 x9 : Value} (y : Value) (h : W.heap[b]? = some (.cells #[x0, x1, x2, x3, x4, x5, x6, x7, x8, x9] t)) : (W.setCell ⟨b, 9, none⟩ y).heap[b]? = some (.cells #[x0, x1, x2, x3, x4, x5, x6, x7, x8, y] t) := by
  simp [World.setCell, Array.getElem?_modify, h]
theorem st10_3 {W : World} {b t : Nat} {x0 x1 x2 x3 x4 x5 x6 x7 x8 x9 : Value} (y : Value) (h : W.heap[b]? = some (.cells #[x0, x1, x2, x3, x4, x5, x6, x7, x8, x9] t)) : (W.setCell ⟨b, 3, none⟩ y).heap[b]? = some (.cells #[x0, x1, x2, y, x4, x5, x6, x7, x8, x9] t) := by
  simp [World.setCell, Array.getElem?_modify, h]
theorem st8a {W : World} {b t : Nat} {x0 y0 x1 y1 x2 y2 x3 y3 x4 y4 x5 y5 x6 y6 x7 y7 : Value} (h : W.heap[b]? = some (.cells #[x0, x1, x2, x3, x4, x5, x6, x7] t)) : ((((((((W.setCell ⟨b, 0, none⟩ y0).setCell ⟨b, 1, none⟩ y1).setCell ⟨b, 2, none⟩ y2).setCell ⟨b, 3, none⟩ y3).setCell ⟨b, 4, none⟩ y4).setCell ⟨b, 5, none⟩ y5).setCell ⟨b, 6, none⟩ y6).setCell ⟨b, 7, none⟩ y7).heap[b]? = some (.cells #[y0, y1, y2, y3, y4, y5, y6, y7] t) := by
  simp [World.setCell, Array.getElem?_modify, h]
set_option maxRecDepth 20000 in
set_option maxHeartbeats 8000000 in
theorem nextDay_any (g : Gat) (P0 : Option Addr) (P1 : Nat) (C0 : Option Addr) (C1 : Nat) (S0 : Option Addr) (S1 : Nat) (L0 : Option Addr) (L1 : Nat) (D0 : Option Addr) (D1 : Nat) (O0 : Option Addr) (O1 : Nat) (qs : List (Ptn × Value)) (bo : Nat) (w2 : World) (hd : 0 ≤ g.day ∧ g.day ≤ 100000) (hou : LOu bo w2 (.slice O0 g.outs.length O1) g.outs) (hz : ∀ c ∈ g.outs, c.partner.size ≤ 1048576 ∧ c.text.size ≤ 1048576) :
    Calls Tryz.prog 61 #[.pointer (some ⟨w2.heap.size, 0, none⟩)] (w2.alloc (.cells #[.int .i32 0, .int .u32 0, .string g.name, .int .i64 g.day, (.slice P0 qs.length P1), (.slice C0 g.crss.length C1), (.slice S0 g.book.stocks.length S1), (.slice L0 g.book.lines.length L1), (.slice D0 g.dffs.length D1), (.slice O0 g.outs.length O1)] 136)) fun e w' => ∃ i1 j1 d1, e = .returned (.agg #[.string g.name, .int .i64 (g.day + 1), (.slice P0 qs.length P1), (.slice C0 g.crss.length C1), (.slice S0 g.book.stocks.length S1), (.slice L0 g.book.lines.length L1), (.slice D0 g.dffs.length D1), .slice i1 (tckO g.outs g.day).list.length j1]) ∧ w2.heap.size ≤ d1 ∧ LOu d1 w' (.slice i1 (tckO g.outs g.day).list.length j1) (tckO g.outs g.day).list ∧ Below w2.heap.size w2 w' := by
  obtain ⟨W1, hW1⟩ : ∃ W1, (w2.alloc (.cells #[.int .i32 0, .int .u32 0, .string g.name, .int .i64 g.day, (.slice P0 qs.length P1), (.slice C0 g.crss.length C1), (.slice S0 g.book.stocks.length S1), (.slice L0 g.book.lines.length L1), (.slice D0 g.dffs.length D1), (.slice O0 g.outs.length O1)] 136)).alloc (.cells #[.string ⟨#[]⟩, .int .i64 0, .slice none 0 0, .slice none 0 0, .slice none 0 0, .slice none 0 0, .slice none 0 0, .slice none 0 0] 42) = W1 := ⟨_, rfl⟩
  obtain ⟨k0, k1⟩ := fl_twoH w2 (.cells #[.int .i32 0, .int .u32 0, .string g.name, .int .i64 g.day, (.slice P0 qs.length P1), (.slice C0 g.crss.length C1), (.slice S0 g.book.stocks.length S1), (.slice L0 g.book.lines.length L1), (.slice D0 g.dffs.length D1), (.slice O0 g.outs.length O1)] 136) (.cells #[.string ⟨#[]⟩, .int .i64 0, .slice none 0 0, .slice none 0 0, .slice none 0 0, .slice none 0 0, .slice none 0 0, .slice none 0 0] 42)
  rw [hW1] at k0 k1
  have hb1 : Below w2.heap.size w2 W1 := by rw [← hW1]; exact ((Below.refl _ _).alloc (Nat.le_refl _) _).alloc (by simp) _
  have hs1 : W1.heap.size = w2.heap.size + 2 := by rw [← hW1]; simp
  have H1 : Hid (Below w2.heap.size w2 W1 ∧ W1.heap[w2.heap.size]? = some (.cells #[.int .i32 0, .int .u32 0, .string g.name, .int .i64 g.day, (.slice P0 qs.length P1), (.slice C0 g.crss.length C1), (.slice S0 g.book.stocks.length S1), (.slice L0 g.book.lines.length L1), (.slice D0 g.dffs.length D1), (.slice O0 g.outs.length O1)] 136) ∧ W1.heap[w2.heap.size + 1]? = some (.cells #[.string ⟨#[]⟩, .int .i64 0, .slice none 0 0, .slice none 0 0, .slice none 0 0, .slice none 0 0, .slice none 0 0, .slice none 0 0] 42) ∧ LOu bo W1 (.slice O0 g.outs.length O1) g.outs ∧ W1.heap.size = w2.heap.size + 2) := ⟨hb1, k0, k1, hou.below hb1, hs1⟩
  have HN : Hid (g.outs ≠ [] → bo < w2.heap.size) := fun h => hou.lt h
  have HZ : Hid (∀ c ∈ g.outs, c.partner.size ≤ 1048576 ∧ c.text.size ≤ 1048576) := hz
  clear hb1 hs1 hou hz k0 k1
  go_enter_defers Tryz.func61, Tryz.ntmps61
  go_upto_region 1 with fail
  try rw [hW1]
  clear hW1
  obtain ⟨x0, x1, x2, x3, x4, x5, x6, x7, x8, x9⟩ := bx10 H1.out.2.1
  have fz := fz8 H1.out.2.1
  go_upto_region 3 with (first | (go_at_call 89; refine (lock_free muLib ⟨w2.heap.size, 0, none⟩ _ x0 (fz 0)).mono ?_; rintro e w' ⟨rfl, rfl⟩))
  obtain ⟨W2, hW2⟩ : ∃ W2, W1.setCell ⟨w2.heap.size, 0, none⟩ (.int .i32 1) = W2 := ⟨_, rfl⟩
  have H2 : Hid (Below w2.heap.size w2 W2 ∧ W2.heap[w2.heap.size]? = some (.cells #[.int .i32 1, .int .u32 0, .string g.name, .int .i64 g.day, (.slice P0 qs.length P1), (.slice C0 g.crss.length C1), (.slice S0 g.book.stocks.length S1), (.slice L0 g.book.lines.length L1), (.slice D0 g.dffs.length D1), (.slice O0 g.outs.length O1)] 136) ∧ W2.heap[w2.heap.size + 1]? = some (.cells #[.string ⟨#[]⟩, .int .i64 0, .slice none 0 0, .slice none 0 0, .slice none 0 0, .slice none 0 0, .slice none 0 0, .slice none 0 0] 42) ∧ LOu bo W2 (.slice O0 g.outs.length O1) g.outs ∧ W2.heap.size = w2.heap.size + 2) := by
    rw [← hW2]
    exact ⟨H1.out.1.setCell (Nat.le_refl _) _, st10_0 _ H1.out.2.1, (setNe _ (by omega)).trans H1.out.2.2.1, H1.out.2.2.2.1.of_block fun hn => setNe _ (by have := HN.out hn; omega), by simpa using H1.out.2.2.2.2⟩
  try rw [hW2]
  clear hW2 x0 x1 x2 x3 x4 x5 x6 x7 x8 x9 fz H1
  have HC : Hid (∀ W, Below W2.heap.size W2 W → W.cell? ⟨w2.heap.size, 3, none⟩ = some (.int .i64 g.day) ∧ W.cell? ⟨w2.heap.size, 9, none⟩ = some (.slice O0 g.outs.length O1) ∧ ∀ o, W.frozen? ⟨w2.heap.size, o, none⟩ = false) := fun W hW => by
    have e := (hW.block _ (Array.getElem?_eq_some_iff.1 H2.out.2.1).1).trans H2.out.2.1
    obtain ⟨_, _, _, e3, _, _, _, _, _, e9⟩ := bx10 e
    exact ⟨e3, e9, fz8 e⟩
  obtain ⟨y3, y9, yf⟩ := HC.out W2 (Below.refl _ _)
  have QT : Hid (∀ W, Below W2.heap.size W2 W → Calls Tryz.prog 105 #[(.slice O0 g.outs.length O1), .int .i64 g.day] W fun e w' => AnsI W (tckO g.outs g.day) e w') := fun W hW => outboxTick_impl _ _ _ _ W (H2.out.2.2.2.1.below hW).row HZ.out
  obtain ⟨p, hp⟩ : ∃ p, p = tckO g.outs g.day := ⟨_, rfl⟩
  rw [← hp] at QT
  have HPP : Hid (p = tckO g.outs g.day) := hp
  clear hp
  have hfld := fldOo
  refine wp_region_noPanic ?_
  refine wp_region_held_drew (S := (fun w' => w'.cell? ⟨w2.heap.size, 3, none⟩ = some (.int .i64 g.day))) (by kernel_rfl) y3 (fun hHeld => ?_)
  refine wpAnyH_take (i := 0) (oi := { dst := some 10, op := Op.move (Operand.tmp 0), type := 78, pos := "l13_gate.go:77", after := #[], guard := none }) (v := ?_) rfl (by kernel_rfl) (by kernel_rfl) (by kernel_rfl) (fun _ _ _ h => h) (Or.inl ⟨by rfl, ?_⟩) (by assumption) ?_
  rotate_left 1
  · intro w hSw
    (try dsimp only at hSw)
    go_simp
    try with_reducible rfl
  try simp only [Act.put, List.setIfInBounds_toArray, List.set_cons_zero, List.set_cons_succ]
  refine wpAnyH_take (i := 1) (oi := { dst := some 11, op := Op.move (Operand.tmp 0), type := 78, pos := "l13_gate.go:77", after := #[], guard := none }) (v := ?_) rfl (by kernel_rfl) (by kernel_rfl) (by kernel_rfl) (fun _ _ _ h => h) (Or.inl ⟨by rfl, ?_⟩) (by assumption) ?_
  rotate_left 1
  · intro w hSw
    (try dsimp only at hSw)
    go_simp
    try with_reducible rfl
  try simp only [Act.put, List.setIfInBounds_toArray, List.set_cons_zero, List.set_cons_succ]
  refine wpAnyH_take (i := 2) (oi := { dst := some 12, op := Op.nilCheck (Operand.tmp 11), type := 0, pos := "l13_gate.go:77", after := #[{ on := 1, ground := Ground.data }], guard := none }) (v := ?_) rfl (by kernel_rfl) (by kernel_rfl) (by kernel_rfl) (fun _ _ _ h => h) (Or.inl ⟨by rfl, ?_⟩) (by assumption) ?_
  rotate_left 1
  · intro w hSw
    (try dsimp only at hSw)
    go_simp
    try with_reducible rfl
  try simp only [Act.put, List.setIfInBounds_toArray, List.set_cons_zero, List.set_cons_succ]
  refine wpAnyH_take (i := 3) (oi := { dst := some 13, op := Op.fieldAddr 136 (Operand.tmp 12) 1, type := 0, pos := "l13_gate.go:77", after := #[{ on := 2, ground := Ground.data }], guard := none }) (v := ?_) rfl (by kernel_rfl) (by kernel_rfl) (by kernel_rfl) (fun _ _ _ h => h) (Or.inl ⟨by rfl, ?_⟩) (by assumption) ?_
  rotate_left 1
  · intro w hSw
    (try dsimp only at hSw)
    go_simp
    try with_reducible rfl
  try simp only [Act.put, List.setIfInBounds_toArray, List.set_cons_zero, List.set_cons_succ]
  refine wpAnyH_take (i := 4) (oi := { dst := some 14, op := Op.fieldAddr 42 (Operand.tmp 13) 6, type := 0, pos := "l13_gate.go:77", after := #[{ on := 3, ground := Ground.data }], guard := none }) (v := ?_) rfl (by kernel_rfl) (by kernel_rfl) (by kernel_rfl) (fun _ _ _ h => h) (Or.inl ⟨by rfl, ?_⟩) (by assumption) ?_
  rotate_left 1
  · intro w hSw
    (try dsimp only at hSw)
    go_simp
    try with_reducible rfl
  try simp only [Act.put, List.setIfInBounds_toArray, List.set_cons_zero, List.set_cons_succ]
  refine wpAnyH_take (i := 6) (oi := { dst := some 16, op := Op.move (Operand.tmp 0), type := 78, pos := "l13_gate.go:77", after := #[], guard := none }) (v := ?_) rfl (by kernel_rfl) (by kernel_rfl) (by kernel_rfl) (fun _ _ _ h => h) (Or.inl ⟨by rfl, ?_⟩) (by assumption) ?_
  rotate_left 1
  · intro w hSw
    (try dsimp only at hSw)
    go_simp
    try with_reducible rfl
  try simp only [Act.put, List.setIfInBounds_toArray, List.set_cons_zero, List.set_cons_succ]
  refine wpAnyH_take (i := 7) (oi := { dst := some 17, op := Op.nilCheck (Operand.tmp 16), type := 0, pos := "l13_gate.go:77", after := #[{ on := 6, ground := Ground.data }], guard := none }) (v := ?_) rfl (by kernel_rfl) (by kernel_rfl) (by kernel_rfl) (fun _ _ _ h => h) (Or.inl ⟨by rfl, ?_⟩) (by assumption) ?_
  rotate_left 1
  · intro w hSw
    (try dsimp only at hSw)
    go_simp
    try with_reducible rfl
  try simp only [Act.put, List.setIfInBounds_toArray, List.set_cons_zero, List.set_cons_succ]
  refine wpAnyH_take (i := 8) (oi := { dst := some 18, op := Op.fieldAddr 136 (Operand.tmp 17) 1, type := 0, pos := "l13_gate.go:77", after := #[{ on := 7, ground := Ground.data }], guard := none }) (v := ?_) rfl (by kernel_rfl) (by kernel_rfl) (by kernel_rfl) (fun _ _ _ h => h) (Or.inl ⟨by rfl, ?_⟩) (by assumption) ?_
  rotate_left 1
  · intro w hSw
    (try dsimp only at hSw)
    go_simp
    try with_reducible rfl
  try simp only [Act.put, List.setIfInBounds_toArray, List.set_cons_zero, List.set_cons_succ]
  refine wpAnyH_take (i := 9) (oi := { dst := some 19, op := Op.fieldAddr 42 (Operand.tmp 18) 1, type := 0, pos := "l13_gate.go:77", after := #[{ on := 8, ground := Ground.data }], guard := none }) (v := ?_) rfl (by kernel_rfl) (by kernel_rfl) (by kernel_rfl) (fun _ _ _ h => h) (Or.inl ⟨by rfl, ?_⟩) (by assumption) ?_
  rotate_left 1
  · intro w hSw
    (try dsimp only at hSw)
    go_simp
    try with_reducible rfl
  try simp only [Act.put, List.setIfInBounds_toArray, List.set_cons_zero, List.set_cons_succ]
  refine wpAnyH_take (i := 10) (oi := { dst := some 20, op := Op.load 2 (Operand.tmp 19), type := 2, pos := "l13_gate.go:77", after := #[{ on := 9, ground := Ground.data }], guard := none }) (v := ?_) rfl (by kernel_rfl) (by kernel_rfl) (by kernel_rfl) (fun _ _ _ h => h) (Or.inl ⟨by rfl, ?_⟩) (by assumption) ?_
  rotate_left 1
  · intro w hSw
    (try dsimp only at hSw)
    go_simp
    try with_reducible rfl
  try simp only [Act.put, List.setIfInBounds_toArray, List.set_cons_zero, List.set_cons_succ]
  refine wpAnyH_ready (rs := [5]) (by kernel_rfl) (by simp) ?_
  refine AllReadyH.cons (o := { dst := some 15, op := Op.load 40 (Operand.tmp 14), type := 40, pos := "l13_gate.go:77", after := #[{ on := 4, ground := Ground.data }], guard := none }) rfl (fun K hK => ?_) AllReadyH.nil
  go_simp
  refine hK.out _ _ ?_ (fun hHeld => ?_)
  · try dsimp only
    assumption
  clear hK K
  try simp only [Act.put, List.setIfInBounds_toArray, List.set_cons_zero, List.set_cons_succ]
  refine wpAnyH_ready (rs := [11]) (by kernel_rfl) (by simp) ?_
  refine AllReadyH.cons (o := { dst := some 21, op := Op.call { callee := Callee.value (Operand.func 105), args := #[Operand.tmp 15, Operand.tmp 20], argTypes := #[40, 2] }, type := 54, pos := "l13_gate.go:77", after := #[{ on := 5, ground := Ground.data }, { on := 10, ground := Ground.data }], guard := none }) rfl (fun K hK => ?_) AllReadyH.nil
  go_simp
  go_at_call 105
  refine (QT.out _ (by with_reducible first | exact Below.refl _ _ | exact (Below.refl _ _).drew)).mono ?_
  rintro e w3 ⟨u, s, l, b1, b2, b3, rfl, h1, h2, h3, hL, hb3⟩
  obtain ⟨i1, j1, i2, j2, i3, j3, rfl, rfl, rfl⟩ := hL.row.val
  have b3' : Below W2.heap.size W2 w3 := (by with_reducible first | exact hb3 | exact undrewG hb3)
  obtain ⟨a3, a9, af⟩ := HC.out w3 b3'
  have H3a : Hid (W2.heap.size ≤ b1 ∧ LOu b1 w3 (.slice i1 p.list.length j1) p.list ∧ Below W2.heap.size W2 w3) := ⟨h1, hL.li, b3'⟩
  clear h1 h2 h3 hL hb3 b3'
  go_wp2_with fail
  refine hK.out _ _ ?_ (fun hHeld => ?_)
  · try dsimp only
    exact a3
  clear hK K
  try simp only [Act.put, List.setIfInBounds_toArray, List.set_cons_zero, List.set_cons_succ]
  refine wpAnyH_take (i := 12) (oi := { dst := some 22, op := Op.field 54 (Operand.tmp 21) 0, type := 40, pos := "l13_gate.go:77", after := #[{ on := 11, ground := Ground.data }], guard := none }) (v := ?_) rfl (by kernel_rfl) (by kernel_rfl) (by kernel_rfl) (fun _ _ _ h => h) (Or.inl ⟨by rfl, ?_⟩) (by assumption) ?_
  rotate_left 1
  · intro w hSw
    (try dsimp only at hSw)
    go_simp
    try with_reducible rfl
  try simp only [Act.put, List.setIfInBounds_toArray, List.set_cons_zero, List.set_cons_succ]
  refine wpAnyH_take (i := 13) (oi := { dst := some 23, op := Op.nilCheck (Operand.tmp 10), type := 0, pos := "l13_gate.go:77", after := #[{ on := 0, ground := Ground.data }, { on := 0, ground := Ground.phase }, { on := 1, ground := Ground.phase }, { on := 2, ground := Ground.phase }, { on := 3, ground := Ground.phase }, { on := 4, ground := Ground.phase }, { on := 5, ground := Ground.phase }, { on := 6, ground := Ground.phase }, { on := 7, ground := Ground.phase }, { on := 8, ground := Ground.phase }, { on := 9, ground := Ground.phase }, { on := 10, ground := Ground.phase }, { on := 11, ground := Ground.phase }, { on := 12, ground := Ground.phase }], guard := none }) (v := ?_) rfl (by kernel_rfl) (by kernel_rfl) (by kernel_rfl) (fun _ _ _ h => h) (Or.inl ⟨by rfl, ?_⟩) (by assumption) ?_
  rotate_left 1
  · intro w hSw
    (try dsimp only at hSw)
    go_simp
    try with_reducible rfl
  try simp only [Act.put, List.setIfInBounds_toArray, List.set_cons_zero, List.set_cons_succ]
  refine wpAnyH_take (i := 14) (oi := { dst := some 24, op := Op.fieldAddr 136 (Operand.tmp 23) 1, type := 0, pos := "l13_gate.go:77", after := #[{ on := 13, ground := Ground.data }, { on := 0, ground := Ground.phase }, { on := 1, ground := Ground.phase }, { on := 2, ground := Ground.phase }, { on := 3, ground := Ground.phase }, { on := 4, ground := Ground.phase }, { on := 5, ground := Ground.phase }, { on := 6, ground := Ground.phase }, { on := 7, ground := Ground.phase }, { on := 8, ground := Ground.phase }, { on := 9, ground := Ground.phase }, { on := 10, ground := Ground.phase }, { on := 11, ground := Ground.phase }, { on := 12, ground := Ground.phase }], guard := none }) (v := ?_) rfl (by kernel_rfl) (by kernel_rfl) (by kernel_rfl) (fun _ _ _ h => h) (Or.inl ⟨by rfl, ?_⟩) (by assumption) ?_
  rotate_left 1
  · intro w hSw
    (try dsimp only at hSw)
    go_simp
    try with_reducible rfl
  try simp only [Act.put, List.setIfInBounds_toArray, List.set_cons_zero, List.set_cons_succ]
  refine wpAnyH_take (i := 15) (oi := { dst := some 25, op := Op.fieldAddr 42 (Operand.tmp 24) 6, type := 0, pos := "l13_gate.go:77", after := #[{ on := 14, ground := Ground.data }, { on := 0, ground := Ground.phase }, { on := 1, ground := Ground.phase }, { on := 2, ground := Ground.phase }, { on := 3, ground := Ground.phase }, { on := 4, ground := Ground.phase }, { on := 5, ground := Ground.phase }, { on := 6, ground := Ground.phase }, { on := 7, ground := Ground.phase }, { on := 8, ground := Ground.phase }, { on := 9, ground := Ground.phase }, { on := 10, ground := Ground.phase }, { on := 11, ground := Ground.phase }, { on := 12, ground := Ground.phase }], guard := none }) (v := ?_) rfl (by kernel_rfl) (by kernel_rfl) (by kernel_rfl) (fun _ _ _ h => h) (Or.inl ⟨by rfl, ?_⟩) (by assumption) ?_
  rotate_left 1
  · intro w hSw
    (try dsimp only at hSw)
    go_simp
    try with_reducible rfl
  try simp only [Act.put, List.setIfInBounds_toArray, List.set_cons_zero, List.set_cons_succ]
  refine wpAnyH_ready (rs := [16]) (by kernel_rfl) (by simp) ?_
  refine AllReadyH.cons (o := { dst := none, op := Op.store 40 (Operand.tmp 25) (Operand.tmp 22), type := 0, pos := "l13_gate.go:77", after := #[{ on := 15, ground := Ground.data }, { on := 12, ground := Ground.data }, { on := 11, ground := Ground.chain }, { on := 0, ground := Ground.phase }, { on := 1, ground := Ground.phase }, { on := 2, ground := Ground.phase }, { on := 3, ground := Ground.phase }, { on := 4, ground := Ground.phase }, { on := 5, ground := Ground.phase }, { on := 6, ground := Ground.phase }, { on := 7, ground := Ground.phase }, { on := 8, ground := Ground.phase }, { on := 9, ground := Ground.phase }, { on := 10, ground := Ground.phase }, { on := 11, ground := Ground.phase }, { on := 12, ground := Ground.phase }], guard := none }) rfl (fun K hK => ?_) AllReadyH.nil
  go_simp
  refine hK.out _ _ ?_ (fun hHeld => ?_)
  · try dsimp only
    exact (World.cell?_setCell_other _ _ _ _ (by simp)).trans a3
  clear hK K
  try simp only [Act.put, List.setIfInBounds_toArray, List.set_cons_zero, List.set_cons_succ]
  refine wpAnyH_done (by kernel_rfl) ?_ _
  refine NoPanic.normal ?_
  obtain ⟨hd1, hL, hb3⟩ := H3a.out
  have d1e : True := trivial
  have e0 := (hb3.block _ (Array.getElem?_eq_some_iff.1 H2.out.2.1).1).trans H2.out.2.1
  have eR := (hb3.block _ (Array.getElem?_eq_some_iff.1 H2.out.2.2.1).1).trans H2.out.2.2.1
  have hz2 := H2.out.2.2.2.2
  obtain ⟨W3, hW3⟩ : ∃ W3, w3.setCell ⟨w2.heap.size, 9, none⟩ (.slice i1 p.list.length j1) = W3 := ⟨_, rfl⟩
  have eK : W3.heap[w2.heap.size]? = some (.cells #[.int .i32 1, .int .u32 0, .string g.name, .int .i64 g.day, (.slice P0 qs.length P1), (.slice C0 g.crss.length C1), (.slice S0 g.book.stocks.length S1), (.slice L0 g.book.lines.length L1), (.slice D0 g.dffs.length D1), (.slice i1 p.list.length j1)] 136) := by rw [← hW3]; exact st10_9 _ e0
  have eR3 : W3.heap[w2.heap.size + 1]? = some (.cells #[.string ⟨#[]⟩, .int .i64 0, .slice none 0 0, .slice none 0 0, .slice none 0 0, .slice none 0 0, .slice none 0 0, .slice none 0 0] 42) := by rw [← hW3]; exact (setNe _ (by omega)).trans eR
  have H3 : Hid (Below w2.heap.size w2 W3 ∧ LOu b1 W3 (.slice i1 p.list.length j1) p.list ∧ w2.heap.size + 2 ≤ b1) := by
    rw [← hW3]
    exact ⟨(H2.out.1.trans (hb3.mono H2.out.1.size)).setCell (Nat.le_refl _) _, hL.of_block fun _ => setNe _ (by omega), by omega⟩
  try rw [hW3]
  obtain ⟨x0, x1, x2, x3, x4, x5, x6, x7, x8, x9⟩ := bx10 eK
  have fz := fz8 eK
  obtain ⟨t0, t1, t2, t3, t4, t5, t6, t7, t8, t9⟩ := bx10 (st10_3 (.int .i64 (g.day + 1)) eK)
  obtain ⟨r0, r1, r2, r3, r4, r5, r6, r7⟩ := bx8 eR3
  obtain ⟨q0, q1, q2, q3, q4, q5, q6, q7⟩ := bx8 ((setNe (W := W3) (b := w2.heap.size + 1) (c := w2.heap.size) (i := 3) (.int .i64 (g.day + 1)) (by omega)).trans eR3)
  have fr := fz8 eR3
  have hwr : IntKind.i64.wrap (g.day + 1) = g.day + 1 := by rw [IntKind.wrap_i64]; omega
  have HE : Hid (W3.heap[w2.heap.size]? = some (.cells #[.int .i32 1, .int .u32 0, .string g.name, .int .i64 g.day, (.slice P0 qs.length P1), (.slice C0 g.crss.length C1), (.slice S0 g.book.stocks.length S1), (.slice L0 g.book.lines.length L1), (.slice D0 g.dffs.length D1), (.slice i1 p.list.length j1)] 136) ∧ W3.heap[w2.heap.size + 1]? = some (.cells #[.string ⟨#[]⟩, .int .i64 0, .slice none 0 0, .slice none 0 0, .slice none 0 0, .slice none 0 0, .slice none 0 0, .slice none 0 0] 42)) := ⟨eK, eR3⟩
  clear hW3 e0 eR eK eR3 hb3 hL hd1
  go_wp2_with fail
  have hK4 := st10_3 (.int .i64 (g.day + 1)) HE.out.1
  have hR4 := (setNe (W := W3) (b := w2.heap.size + 1) (c := w2.heap.size) (i := 3) (.int .i64 (g.day + 1)) (by omega)).trans HE.out.2
  have hR8 := st8a (y0 := .string g.name) (y1 := .int .i64 (g.day + 1)) (y2 := (.slice P0 qs.length P1)) (y3 := (.slice C0 g.crss.length C1)) (y4 := (.slice S0 g.book.stocks.length S1)) (y5 := (.slice L0 g.book.lines.length L1)) (y6 := (.slice D0 g.dffs.length D1)) (y7 := (.slice i1 p.list.length j1)) hR4
  refine leaves_cons (f := 90) (args := #[.pointer (some ⟨w2.heap.size, 0, none⟩)]) (by simp) (by simp [go_sem]) ?_
  have ne : ∀ j, (⟨w2.heap.size + 1, j, none⟩ : Addr) ≠ ⟨w2.heap.size, 0, none⟩ := fun j e => by simp at e
  refine (unlock_deferred muLib ⟨w2.heap.size, 0, none⟩ .returning _ ?_ ?_).mono ?_
  · rw [World.cell?_setCell_other _ _ _ _ (ne 7), World.cell?_setCell_other _ _ _ _ (ne 6), World.cell?_setCell_other _ _ _ _ (ne 5), World.cell?_setCell_other _ _ _ _ (ne 4), World.cell?_setCell_other _ _ _ _ (ne 3), World.cell?_setCell_other _ _ _ _ (ne 2), World.cell?_setCell_other _ _ _ _ (ne 1), World.cell?_setCell_other _ _ _ _ (ne 0)]
    exact (bx10 hK4).1
  · simp [fz]
  rintro e u' w'' ⟨rfl, rfl, rfl⟩
  have hF := (setNe (i := 0) (.int .i32 0) (show w2.heap.size + 1 ≠ w2.heap.size by omega)).trans hR8
  obtain ⟨f0, f1, f2, f3, f4, f5, f6, f7⟩ := bx8 hF
  have hd2 := H3.out.2.2
  have stp : ∀ (W : World) (B j : Nat) (x : Value), w2.heap.size ≤ B → B < w2.heap.size + 2 → (Below w2.heap.size w2 W ∧ LOu b1 W (.slice i1 p.list.length j1) p.list) → (Below w2.heap.size w2 (W.setCell ⟨B, j, none⟩ x) ∧ LOu b1 (W.setCell ⟨B, j, none⟩ x) (.slice i1 p.list.length j1) p.list) := fun W B j x g1 g2 ⟨m1, m2⟩ => ⟨m1.setCell g1 x, m2.of_block fun _ => setNe x (by omega)⟩
  have hE := stp _ (w2.heap.size) 0 (.int .i32 0) (by omega) (by omega) (stp _ (w2.heap.size + 1) 7 (.slice i1 p.list.length j1) (by omega) (by omega) (stp _ (w2.heap.size + 1) 6 (.slice D0 g.dffs.length D1) (by omega) (by omega) (stp _ (w2.heap.size + 1) 5 (.slice L0 g.book.lines.length L1) (by omega) (by omega) (stp _ (w2.heap.size + 1) 4 (.slice S0 g.book.stocks.length S1) (by omega) (by omega) (stp _ (w2.heap.size + 1) 3 (.slice C0 g.crss.length C1) (by omega) (by omega) (stp _ (w2.heap.size + 1) 2 (.slice P0 qs.length P1) (by omega) (by omega) (stp _ (w2.heap.size + 1) 1 (.int .i64 (g.day + 1)) (by omega) (by omega) (stp _ (w2.heap.size + 1) 0 (.string g.name) (by omega) (by omega) (stp _ (w2.heap.size) 3 (.int .i64 (g.day + 1)) (by omega) (by omega) ⟨H3.out.1, H3.out.2.1⟩)))))))))
  refine ⟨.agg #[.string g.name, .int .i64 (g.day + 1), (.slice P0 qs.length P1), (.slice C0 g.crss.length C1), (.slice S0 g.book.stocks.length S1), (.slice L0 g.book.lines.length L1), (.slice D0 g.dffs.length D1), (.slice i1 p.list.length j1)], by simp [results, Tryz.results61, go_sem, f0, f1, f2, f3, f4, f5, f6, f7], ?_⟩
  obtain rfl : p = tckO g.outs g.day := HPP.out
  exact ⟨_, _, b1, rfl, by omega, hE.2, hE.1⟩
end Go.Proofs.YtagajindaipaeaaGreat
