/- Texts of ours put together: GpP, PnI, CrM. -/
import Derived.Test.YtkgkahlhekecmaaGreatG28
import Derived.Test.YtkgkahlhekecmaaGreatG31
import Derived.Maps.RangeWalk
import Derived.Maps.Views
import Derived.DeepKeys4
namespace Go.Proofs.YtkgkahlhekecmaaGreat
open Go.ChangeShapes Go.WideShapes Go.ChangeAt Go.RowKit
/-- No gate. -/
def zG : Gat := ⟨⟨#[]⟩, 0, [], [], ⟨[], []⟩, [], []⟩
def insL (rs : List Ptn) (i : Nat) (l : Ptn) : List Ptn := rs.take i ++ l :: rs.drop i
def adG (g : Gat) (t : ByteArray) : Gat := ⟨g.name, g.day, insL g.ptns (plcP g.ptns t) (newP t), g.crss, g.book, g.dffs, g.outs⟩
/-- Is one of that name there? -/
def hasP (g : Gat) (t : ByteArray) : Bool := (g.ptns[plcP g.ptns t]?).any fun x => decide (cmpP x t = 0)
open Classical in
/-- What GatePartner tells. -/
noncomputable def gpR (g : Gat) (t : ByteArray) : Gat × Int := if 20000 < t.size then (zG, 2) else if gtB g = false ∨ nameB t = false then (zG, 1) else if hasP g t = true then (zG, 11) else if g.ptns.length = 20 then (zG, 12) else (adG g t, 0)
theorem gpR_size {g : Gat} {t : ByteArray} (h : 20000 < t.size) : gpR g t = (zG, 2) := if_pos h
theorem gpR_form {g : Gat} {t : ByteArray} (h : ¬ 20000 < t.size) (h1 : gtB g = false ∨ nameB t = false) : gpR g t = (zG, 1) := by unfold gpR; rw [if_neg h, if_pos h1]
theorem gpR_there {g : Gat} {t : ByteArray} (h : ¬ 20000 < t.size) (h1 : gtB g = true) (h2 : nameB t = true) (h3 : hasP g t = true) : gpR g t = (zG, 11) := by unfold gpR; rw [if_neg h, if_neg (by simp [h1, h2]), if_pos h3]
theorem gpR_full {g : Gat} {t : ByteArray} (h : ¬ 20000 < t.size) (h1 : gtB g = true) (h2 : nameB t = true) (h3 : hasP g t = false) (h4 : g.ptns.length = 20) : gpR g t = (zG, 12) := by unfold gpR; rw [if_neg h, if_neg (by simp [h1, h2]), if_neg (by simp [h3]), if_pos h4]
theorem gpR_ok {g : Gat} {t : ByteArray} (h : ¬ 20000 < t.size) (h1 : gtB g = true) (h2 : nameB t = true) (h3 : hasP g t = false) (h4 : g.ptns.length ≠ 20) : gpR g t = (adG g t, 0) := by unfold gpR; rw [if_neg h, if_neg (by simp [h1, h2]), if_neg (by simp [h3]), if_neg h4]
theorem insQ_fst (qs : List (Ptn × Value)) (i : Nat) (x : Ptn × Value) : (insQ qs i x).map Prod.fst = insL (qs.map Prod.fst) i x.1 := by simp [insQ, insL, List.map_take, List.map_drop]
/-- What a call that answers a GateOut leaves: a gate and a code. -/
def AnsGo (cd : Int) (w : World) (q : Gat) (e : Ending) (w' : World) : Prop := ∃ up uc us ul ud uo b f β bc bs bl bd bo, e = .returned (.agg #[.string q.name, .int .i64 q.day, up, uc, us, ul, ud, uo, .string ⟨#[]⟩, .int .i64 0, .int .i64 0, .int .i64 0, .int .i64 0, .int .i64 cd]) ∧ LGt w' up uc us ul ud uo q b f β bc bs bl bd bo ∧ (∀ k, blkG q b β bc bs bl bd bo k → w.heap.size ≤ k) ∧ Below w.heap.size w w'
def AnsGoS (cd : Int) (w : World) (q : Gat) (e : Ending) (w' : World) : Prop := ∃ up uc us ul ud uo, e = .returned (.agg #[.string q.name, .int .i64 q.day, up, uc, us, ul, ud, uo, .string ⟨#[]⟩, .int .i64 0, .int .i64 0, .int .i64 0, .int .i64 0, .int .i64 cd]) ∧ RGt w' up uc us ul ud uo q ∧ Below w.heap.size w w'
theorem zG_L (W : World) : ∃ b f β, LGt W (.slice none 0 0) (.slice none 0 0) (.slice none 0 0) (.slice none 0 0) (.slice none 0 0) (.slice none 0 0) zG b f β 0 0 0 0 0 ∧ ∀ k, ¬ blkG zG b β 0 0 0 0 0 k := by
  obtain ⟨b, f, β, h1, _⟩ := lpt_of_ownP (n := 0) (W := W) (v := .slice none 0 0) (qs := []) ⟨World.ownsRow_nil W 0 _ _, fun q hq => by simp at hq, List.Pairwise.nil⟩ (by simp) (fun q hq => by simp at hq)
  refine ⟨b, f, β, ⟨by simp [zG, ByteArray.size], h1, LCs.nil 0 W, LSt.nil 0 W, LOl.nil 0 W, LDf.nil 0 W, LOu.nil 0 W⟩, fun k hk => ?_⟩
  rcases hk with hk | ⟨_, h⟩ | ⟨_, h⟩ | ⟨_, h⟩ | ⟨_, h⟩ | ⟨_, h⟩
  · rcases hk with ⟨_, h⟩ | ⟨i, p, hi, _⟩
    · exact h rfl
    · simp [zG] at hi
  all_goals exact h rfl
theorem ansGo_zero (cd : Int) {w w' : World} (h : Below w.heap.size w w') : AnsGo cd w zG (.returned (.agg #[.string zG.name, .int .i64 zG.day, .slice none 0 0, .slice none 0 0, .slice none 0 0, .slice none 0 0, .slice none 0 0, .slice none 0 0, .string ⟨#[]⟩, .int .i64 0, .int .i64 0, .int .i64 0, .int .i64 0, .int .i64 cd])) w' := by
  obtain ⟨b, f, β, h1, h2⟩ := zG_L w'
  exact ⟨_, _, _, _, _, _, b, f, β, 0, 0, 0, 0, 0, rfl, h1, fun k hk => absurd hk (h2 k), h⟩
/-- The gate behind the keeper's admit. -/
theorem lgt_admit {n : Nat} {w2 w' : World} {P0 A' : Option Addr} {P1 C' : Nat} {uc us ul ud uo : Value} {g : Gat} {t : ByteArray} {qs : List (Ptn × Value)} {bc bs bl bd bo : Nat} (h : OGt n w2 (.slice P0 qs.length P1) uc us ul ud uo g qs bc bs bl bd bo) (hP : BdGt 1048576 g)
    (ho : OwnP n w' (.slice A' (qs.length + 1) C') (insQ qs (plcP g.ptns t) (newP t, .slice none 0 0))) (hg : w2.grownBy w' (Value.slice P0 qs.length P1).ownBlock) (hts : t.size ≤ 1048576) : ∃ b f β, LGt w' (.slice A' (qs.length + 1) C') uc us ul ud uo (adG g t) b f β bc bs bl bd bo ∧ ∀ k, blkG (adG g t) b β bc bs bl bd bo k → n ≤ k := by
  have hb := bdp hP
  have hq := h.qm
  have hl := congrArg List.length hq
  rw [List.length_map] at hl
  have hnew : (newP t).name.size ≤ 9223372036854775807 ∧ (newP t).seen.length ≤ 9223372036854775807 := by
    unfold newP
    split
    · exact ⟨by dsimp only; omega, Nat.zero_le _⟩
    · exact ⟨Nat.zero_le _, Nat.zero_le _⟩
  have hpl : plcP g.ptns t ≤ qs.length := by rw [hl]; exact List.countP_le_length
  obtain ⟨b, f, β, k0, l0⟩ := lpt_of_ownP (by simpa [insQ_len _ _ _ hpl] using ho) (by rw [insQ_len _ _ _ hpl]; omega) (fun q hm => by
    rcases insQ_mem hm with rfl | hm
    · exact hnew
    · have := hb.2 q.1 (by rw [← hq]; exact List.mem_map_of_mem hm)
      omega)
  rw [insQ_fst, hq] at k0 l0
  obtain ⟨g1, g2, g3, g4, g5⟩ := h.gc
  have kp : ∀ {j : Nat} {T : Nat} {m : Nat} {ff : Nat → Value}, w2.rowIs j T m ff → 63 ≠ T → w'.heap[j]? = w2.heap[j]? := fun {j T m ff} hr hT => by
    obtain ⟨c, hc, _⟩ := hr
    exact hg.block j (Array.getElem?_eq_some_iff.1 hc).1 (fun e => own_neB h.pt.row hc hT e.symm)
  have e1 : LCs bc w' uc g.crss := h.cs.of_block fun hn => by
    obtain ⟨a, cap, e, hc⟩ := h.cs.shape
    obtain ⟨_, m, ff, hR, _⟩ := hc hn
    exact kp hR (by decide)
  have e2 : LSt bs w' us g.book.stocks := h.st.of_block fun hn => by
    obtain ⟨a, cap, e, hc⟩ := h.st.shape
    obtain ⟨_, m, ff, hR, _⟩ := hc hn
    exact kp hR (by decide)
  have e3 : LOl bl w' ul g.book.lines := h.ln.of_block fun hn => by
    obtain ⟨a, cap, e, hc⟩ := h.ln.shape
    obtain ⟨_, m, ff, hR, _⟩ := hc hn
    exact kp hR (by decide)
  have e4 : LDf bd w' ud g.dffs := h.df.of_block fun hn => by
    obtain ⟨a, cap, e, hc⟩ := h.df.shape
    obtain ⟨_, m, ff, hR, _⟩ := hc hn
    exact kp hR (by decide)
  have e5 : LOu bo w' uo g.outs := h.ou.of_block fun hn => by
    obtain ⟨a, cap, e, hc⟩ := h.ou.shape
    obtain ⟨_, m, ff, hR, _⟩ := hc hn
    exact kp hR (by decide)
  refine ⟨b, f, β, ⟨h.nm, k0, e1, e2, e3, e4, e5⟩, fun k hk => ?_⟩
  rcases hk with hk | ⟨rfl, _⟩ | ⟨rfl, _⟩ | ⟨rfl, _⟩ | ⟨rfl, _⟩ | ⟨rfl, _⟩
  · exact l0 k hk
  all_goals assumption
end Go.Proofs.YtkgkahlhekecmaaGreat
namespace Go.Proofs.YtkgkahlhekecmaaGreat
open Go.ChangeShapes Go.WideShapes Go.ChangeAt Go.RowKit
theorem isCode_any (n : Int) (w : World) : Calls Tryz.prog 153 #[.int .i64 n] w fun e w' => e = .returned (.bool (codeB n)) ∧ w' = w := by
  by_cases h1 : 0 ≤ n
  · by_cases h2 : n ≤ 13
    · go_enter Tryz.func153, Tryz.ntmps153
      go_wp2
      go_ret
      exact ⟨ret_bool (by simp [codeB, h1, h2]), rfl⟩
    · go_enter Tryz.func153, Tryz.ntmps153
      go_wp2
      go_ret
      exact ⟨ret_bool (by simp [codeB, h1, h2]), rfl⟩
  · go_enter Tryz.func153, Tryz.ntmps153
    go_wp2
    go_ret
    exact ⟨ret_bool (by simp [codeB]; omega), rfl⟩
set_option maxHeartbeats 4000000 in
theorem seenRight_any (low : Int) (v : Value) (rs : List Sn) (w : World) (h : RowSn w v rs) (hl : 1 ≤ low ∧ low ≤ 999999) : Calls Tryz.prog 128 #[.int .i64 low, v] w fun e w' => e = .returned (.bool (seenB low low rs)) ∧ Below w.heap.size w w' := by
  have hlen := h.len
  obtain ⟨A, C, rfl⟩ := h.val
  have HR : Hid (RowSn w (.slice A rs.length C) rs) := h
  clear h
  obtain ⟨hl1, hl2⟩ := hl
  go_enter Tryz.func128, Tryz.ntmps128
  go_wp2
  go_loopw [5, 11] (fun l i wr => ∃ (k : Nat) (z : Int), l = .int .i64 z ∧ i = .int .i64 (k : Int) ∧ k ≤ rs.length ∧ 1 ≤ z ∧ z ≤ 1000000 ∧ seenB low low rs = seenB low z (rs.drop k) ∧ Below w.heap.size w wr) (fun _ i _ => rs.length - (intOf i).toNat)
  case atStart => exact ⟨0, low, rfl, rfl, by omega, by omega, by omega, by simp, Below.refl _ _⟩
  case round =>
    obtain ⟨k, z, rfl, rfl, hk, hz1, hz2, hE, hb⟩ := hrel
    have HE : Hid (seenB low low rs = seenB low z (rs.drop k) ∧ Below w.heap.size w wr) := ⟨hE, hb⟩
    clear hE
    by_cases hlt : k < rs.length
    · have hlt' : (k : Int) < (rs.length : Int) := by omega
      obtain ⟨b, o, cap', g, e, hs, ⟨q0, q1, q2⟩⟩ := (HR.out.below hb).at hlt
      simp only [Value.slice.injEq, true_and] at e
      obtain ⟨rfl, rfl⟩ := e
      have HS : Hid (rs[k]? = some g) := hs
      clear hs hb
      obtain ⟨num, ans, cod⟩ := g
      dsimp only at q0 q1 q2
      have bA : Below w.heap.size w (wr.alloc (.cells #[.int .i64 num, .int .i64 ans, .int .i64 cod] 148)) := HE.out.2.alloc HE.out.2.size _
      by_cases c1 : num < z
      · go_wp2
        go_ret
        exact ⟨ret_bool (by rw [HE.out.1, seen_step HS.out]; simp [snB]; intro; omega), bA⟩
      by_cases c2 : low + 32 ≤ num
      · go_wp2
        go_ret
        exact ⟨ret_bool (by rw [HE.out.1, seen_step HS.out]; simp [snB]; intro; omega), bA⟩
      by_cases c3 : 999999 < num
      · go_wp2
        go_ret
        exact ⟨ret_bool (by rw [HE.out.1, seen_step HS.out]; simp [snB]; intro; omega), bA⟩
      have c1' : ¬ num < z := c1
      have c2' : num < low + 32 := by omega
      have HF : Hid (snB low z ⟨num, ans, cod⟩ = (ctlB ans && codeB cod)) := by
        have : z ≤ num := by omega
        have h3 : num ≤ 999999 := by omega
        simp [Hid, snB, this, c2', h3]
      go_wp2_with fail
      refine (isControl_any ans _).mono ?_
      rintro e w2 ⟨rfl, rfl⟩
      cases hc : ctlB ans
      · go_wp2
        go_ret
        exact ⟨ret_bool (by rw [HE.out.1, seen_step HS.out, HF.out, hc]; rfl), bA⟩
      · go_wp2_with fail
        refine (isCode_any cod _).mono ?_
        rintro e w3 ⟨rfl, rfl⟩
        cases hd : codeB cod
        · go_wp2
          go_ret
          exact ⟨ret_bool (by rw [HE.out.1, seen_step HS.out, HF.out, hc, hd]; rfl), bA⟩
        · go_wp2
          go_roundw
          case rel => exact ⟨k + 1, num + 1, by go_num, by go_num, by omega, by omega, by omega, by rw [HE.out.1, seen_step HS.out, HF.out, hc, hd]; rfl, bA⟩
          case measure => simp [intOf]; omega
    · obtain rfl : k = rs.length := by omega
      clear hb
      go_wp2
      go_ret
      exact ⟨ret_bool (by rw [HE.out.1, seen_end]), HE.out.2⟩
set_option maxHeartbeats 2000000 in
theorem ptRight_impl (p : Ptn) (v : Value) (w : World) (h : RPt w v p) : Calls Tryz.prog 99 #[.agg #[.string p.name, .int .i64 p.low, .int .i64 p.next, v]] w fun e w' => e = .returned (.bool (ptnB p)) ∧ Below w.heap.size w w' := by
  obtain ⟨name, low, next, rs⟩ := p
  have hlen := h.ls.len
  obtain ⟨A, C, rfl⟩ := h.ls.val
  dsimp only at h hlen ⊢
  have b0 : Below w.heap.size w (w.alloc (.cells #[.string name, .int .i64 low, .int .i64 next, .slice A rs.length C] 63)) := (Below.refl _ _).alloc (Nat.le_refl _) _
  have HR : Hid (RowSn (w.alloc (.cells #[.string name, .int .i64 low, .int .i64 next, .slice A rs.length C] 63)) (.slice A rs.length C) rs ∧ Below w.heap.size w (w.alloc (.cells #[.string name, .int .i64 low, .int .i64 next, .slice A rs.length C] 63))) := ⟨h.ls.below b0, b0⟩
  clear h b0
  go_enter Tryz.func99, Tryz.ntmps99
  go_wp2_with fail
  refine (isName_any name _).mono ?_
  rintro e w1 ⟨rfl, rfl⟩
  cases hn : nameB name
  · go_wp2
    go_ret
    exact ⟨ret_bool (by simp [ptnB, hn]), HR.out.2⟩
  go_wp2_with fail
  refine (isControl_any low _).mono ?_
  rintro e w1 ⟨rfl, rfl⟩
  cases hl : ctlB low
  · go_wp2
    go_ret
    exact ⟨ret_bool (by simp [ptnB, hl]), HR.out.2⟩
  go_wp2_with fail
  refine (isControl_any next _).mono ?_
  rintro e w1 ⟨rfl, rfl⟩
  cases hx : ctlB next
  · go_wp2
    go_ret
    exact ⟨ret_bool (by simp [ptnB, hx]), HR.out.2⟩
  go_wp2_with fail
  refine (seenRight_any low _ rs _ HR.out.1 (ctlB_iff.1 hl)).mono ?_
  rintro e w2 ⟨rfl, hb2⟩
  have HB : Hid (Below w.heap.size w w2) := HR.out.2.trans (hb2.mono (by simp))
  clear hb2
  go_wp2
  go_ret
  exact ⟨ret_bool (by simp [ptnB, hn, hl, hx]), HB.out⟩
end Go.Proofs.YtkgkahlhekecmaaGreat
namespace Go.Proofs.YtkgkahlhekecmaaGreat
open Go.ChangeShapes Go.WideShapes Go.ChangeAt Go.RowKit
open Go.Maps (Keyed)
open Go.MapKept
open Go.ChangeMaps (setBlock heap_setBlock_same heap_setBlock_other)
def kv (k : ByteArray × ByteArray) : Value := .agg #[.string k.1, .string k.2]
def cv (c : Crs) : Value := .agg #[.string c.partner, .string c.theirs, .string c.own]
theorem kv_inj {a b : ByteArray × ByteArray} (h : kv a = kv b) : a = b := by
  simp only [kv, Value.agg.injEq, Array.mk.injEq, List.cons.injEq, Value.string.injEq, and_true] at h
  exact Prod.ext h.1 h.2
theorem laidOut8 : laidOutB Tryz.prog = true := by kernel_rfl
theorem keyTy8 : Tryz.prog.keyType 180 = true := by kernel_rfl
theorem keyCells8 : Tryz.prog.cellsOf 180 = 2 := by kernel_rfl
theorem strCells8 : Tryz.prog.cellsOf 9 = 1 := by kernel_rfl
theorem keyC : Keyed Tryz.prog 180 := Keyed.of_law (deep_law_laid laidOut8 (m := 3) (by omega) (of_decide_eq_true (by kernel_rfl)) (by kernel_rfl) (by kernel_rfl))
theorem typesSize8 : ∃ m, Tryz.prog.types.size = m + 1 := by
  have h : 0 < Tryz.prog.types.size := of_decide_eq_true (by kernel_rfl)
  exact ⟨Tryz.prog.types.size - 1, by omega⟩
/-- A key's sizes. -/
def KS (k : ByteArray × ByteArray) : Prop := k.1.size ≤ maxLen ∧ k.2.size ≤ maxLen
/-- What a key reads as. -/
def klit (k : ByteArray × ByteArray) : Lit := .string (keyBytes [.string k.1.data.toList, .string k.2.data.toList])
theorem key_lit {k : ByteArray × ByteArray} (h : KS k) : keyOf Tryz.prog 180 (kv k) = some (klit k) := by
  obtain ⟨m, hm⟩ := typesSize8
  obtain ⟨h1, h2⟩ := h
  unfold keyOf klit
  simp only [Tryz.underlying180]
  rw [if_pos (by simp [keyTy8, Value.formed, Tryz.underlying180, keyCells8, kv])]
  rw [hm]
  unfold Program.keyLits
  simp only [Tryz.underlying180]
  rw [if_pos ⟨by simp [keyCells8, kv, Value.cells], by simp⟩]
  unfold Program.keyLits
  simp [kv, Value.cells, strCells8, Tryz.underlying9, h1, h2]
theorem key_of {k : ByteArray × ByteArray} (h : KS k) : ∃ l, keyOf Tryz.prog 180 (kv k) = some l := ⟨_, key_lit h⟩
/-- The map in block b leads to each of l by its key. -/
structure MC (w : World) (b : Nat) (kf : Crs → ByteArray × ByteArray) (l : List Crs) : Prop where
  ex : ∃ es clock, w.heap[b]? = some (.map es clock) ∧ es.toList.map (fun e => (e.key, e.val)) = l.map (fun c => (kv (kf c), cv c)) ∧ Stamped es clock
  sizes : ∀ c ∈ l, KS (kf c)
theorem MC.lt {w : World} {b : Nat} {kf : Crs → ByteArray × ByteArray} {l : List Crs} (h : MC w b kf l) : b < w.heap.size := by
  obtain ⟨es, clock, hb, _⟩ := h.ex
  exact (Array.getElem?_eq_some_iff.1 hb).1
theorem MC.of_block {w w' : World} {b : Nat} {kf : Crs → ByteArray × ByteArray} {l : List Crs} (h : MC w b kf l) (hb : w'.heap[b]? = w.heap[b]?) : MC w' b kf l := by
  obtain ⟨es, clock, h1, h2⟩ := h.ex
  exact ⟨⟨es, clock, hb.trans h1, h2⟩, h.sizes⟩
theorem MC.below {w w' : World} {b : Nat} {kf : Crs → ByteArray × ByteArray} {l : List Crs} (h : MC w b kf l) (hb : Below w.heap.size w w') : MC w' b kf l := h.of_block (hb.block b h.lt)
theorem MC.nil {w : World} {b : Nat} (kf : Crs → ByteArray × ByteArray) (h : w.heap[b]? = some (.map #[] 0)) : MC w b kf [] := ⟨⟨#[], 0, h, rfl, stamped_empty 0⟩, fun c hc => by cases hc⟩
theorem es_get {es : Array MapEntry} {l : List Crs} {kf : Crs → ByteArray × ByteArray} (h : es.toList.map (fun e => (e.key, e.val)) = l.map (fun c => (kv (kf c), cv c))) {j : Nat} {e : MapEntry} (he : es.toList[j]? = some e) : ∃ c, l[j]? = some c ∧ e.key = kv (kf c) ∧ e.val = cv c := by
  have h1 := congrArg (fun x => x[j]?) h
  simp only [List.getElem?_map, he, Option.map_some] at h1
  cases hc : l[j]? with
  | none => rw [hc] at h1; cases h1
  | some c =>
    rw [hc] at h1
    simp only [Option.map_some, Option.some.injEq, Prod.mk.injEq] at h1
    exact ⟨c, rfl, h1.1, h1.2⟩
theorem es_keys {es : Array MapEntry} {l : List Crs} {kf : Crs → ByteArray × ByteArray} (h : es.toList.map (fun e => (e.key, e.val)) = l.map (fun c => (kv (kf c), cv c))) (hs : ∀ c ∈ l, KS (kf c)) : ∀ e ∈ es.toList, ∃ k, keyOf Tryz.prog 180 e.key = some k := fun e he => by
  obtain ⟨j, hj⟩ := List.getElem?_of_mem he
  obtain ⟨c, hc, h1, _⟩ := es_get h hj
  rw [h1]
  exact key_of (hs c (List.mem_of_getElem? hc))
theorem es_none {es : Array MapEntry} {l : List Crs} {kf : Crs → ByteArray × ByteArray} (h : es.toList.map (fun e => (e.key, e.val)) = l.map (fun c => (kv (kf c), cv c))) {k : ByteArray × ByteArray} (hk : ∀ e ∈ es.toList, e.key ≠ kv k) : ∀ c ∈ l, kf c ≠ k := fun c hc e => by
  have hm : (kv (kf c), cv c) ∈ es.toList.map (fun e => (e.key, e.val)) := by rw [h]; exact List.mem_map.2 ⟨c, hc, rfl⟩
  obtain ⟨x, hx, he⟩ := List.mem_map.1 hm
  simp only [Prod.mk.injEq] at he
  exact hk x hx (by rw [he.1, e])
theorem MC.look {w : World} {b : Nat} {kf : Crs → ByteArray × ByteArray} {l : List Crs} (h : MC w b kf l) {k : ByteArray × ByteArray} (hk : KS k) {z : Value} (hz : (zeroValue 106).run Tryz.prog w = .ok z w) :
    ((Instr.lookup 153 (.map (some b)) (kv k) true).run Tryz.prog w = .ok (.tuple #[z, .bool false]) w ∧ ∀ c ∈ l, kf c ≠ k) ∨ ∃ c ∈ l, kf c = k ∧ (Instr.lookup 153 (.map (some b)) (kv k) true).run Tryz.prog w = .ok (.tuple #[cv c, .bool true]) w := by
  obtain ⟨es, clock, hb, he, _⟩ := h.ex
  obtain ⟨kl, hkl⟩ := key_of hk
  rcases keyC.find w hkl es.toList (es_keys he h.sizes) with ⟨h1, h2⟩ | ⟨j, e0, h1, h2, h3⟩
  · exact .inl ⟨by simp [Instr.lookup, run_underlying Tryz.underlying153, MapKept.run_getObj_map hb, keyC.check w _ hkl, h1, hz, Result.andThen], es_none he h2⟩
  · obtain ⟨c, hc, e1, e2⟩ := es_get he h2
    refine .inr ⟨c, List.mem_of_getElem? hc, kv_inj (e1.symm.trans h3), ?_⟩
    simp [Instr.lookup, run_underlying Tryz.underlying153, MapKept.run_getObj_map hb, keyC.check w _ hkl, h1, e2, Result.andThen]
/-- Put in its place. -/
def putC (kf : Crs → ByteArray × ByteArray) (c : Crs) : List Crs → List Crs
  | [] => [c]
  | d :: r => if kf d = kf c then c :: r else d :: putC kf c r
theorem putC_new {kf : Crs → ByteArray × ByteArray} {c : Crs} : ∀ {l : List Crs}, (∀ d ∈ l, kf d ≠ kf c) → putC kf c l = l ++ [c]
  | [], _ => rfl
  | d :: r, h => by
    simp only [putC]
    rw [if_neg (h d (by simp)), putC_new fun x hx => h x (by simp [hx])]
    rfl
theorem putC_at {kf : Crs → ByteArray × ByteArray} {c d : Crs} : ∀ {l : List Crs} {j : Nat}, l[j]? = some d → kf d = kf c → (∀ i x, i < j → l[i]? = some x → kf x ≠ kf c) → putC kf c l = l.set j c
  | [], j, h, _, _ => by simp at h
  | x :: r, 0, h, e, _ => by
    simp at h
    subst h
    simp [putC, e]
  | x :: r, j + 1, h, e, hn => by
    simp only [putC]
    rw [if_neg (hn 0 x (by omega) rfl), putC_at (l := r) (j := j) (by simpa using h) e fun i y hi hy => hn (i + 1) y (by omega) (by simpa using hy)]
    rfl
theorem putC_mem {kf : Crs → ByteArray × ByteArray} {c : Crs} : ∀ {l : List Crs}, ∀ x ∈ putC kf c l, x = c ∨ x ∈ l
  | [], x, h => by simpa [putC] using h
  | d :: r, x, h => by
    simp only [putC] at h
    split at h
    · rcases List.mem_cons.1 h with rfl | h
      · exact .inl rfl
      · exact .inr (by simp [h])
    · rcases List.mem_cons.1 h with rfl | h
      · exact .inr (by simp)
      · rcases putC_mem x h with g | g
        · exact .inl g
        · exact .inr (by simp [g])
theorem MC.put {w : World} {b : Nat} {kf : Crs → ByteArray × ByteArray} {l : List Crs} (h : MC w b kf l) (c : Crs) (hk : KS (kf c)) :
    ∃ w', (Instr.mapUpdate 153 (.map (some b)) (kv (kf c)) (cv c)).run Tryz.prog w = .ok () w' ∧ MC w' b kf (putC kf c l) ∧ w.grownBy w' (some b) := by
  obtain ⟨es, clock, hb, he, hS⟩ := h.ex
  obtain ⟨kl, hkl⟩ := key_of hk
  have hsz : ∀ x ∈ putC kf c l, KS (kf x) := fun x hx => by
    rcases putC_mem x hx with rfl | g
    · exact hk
    · exact h.sizes x g
  rcases keyC.find w hkl es.toList (es_keys he h.sizes) with ⟨h1, h2⟩ | ⟨j, e0, h1, h2, h3⟩
  · refine ⟨setBlock w b (.map (es.push ⟨kv (kf c), cv c, clock⟩) (clock + 1)), ?_, ⟨⟨_, _, heap_setBlock_same hb _, ?_, stamped_push hS h2⟩, hsz⟩, ⟨rfl, rfl, rfl, by simp [setBlock], fun i _ hi => heap_setBlock_other hb _ (fun e => hi (by rw [e]))⟩⟩
    · simp [Instr.mapUpdate, run_underlying Tryz.underlying153, MapKept.run_getObj_map hb, keyC.check w false hkl, h1, MapKept.run_setObj_map _ hb, Result.andThen, setBlock]
    · rw [putC_new (es_none he h2)]
      simp [he]
  · have hj : es[j]? = some e0 := by simpa using h2
    have hlist : (es.modify j (fun e' => { e' with key := kv (kf c), val := cv c })).toList = es.toList.set j { e0 with key := kv (kf c), val := cv c } := by rw [Array.toList_modify, Go.ChangeMaps.modify_eq_set _ _ _ _ h2]
    obtain ⟨d, hd, e1, e2⟩ := es_get he h2
    have hdk : kf d = kf c := kv_inj (e1.symm.trans h3)
    refine ⟨setBlock w b (.map (es.modify j (fun e' => { e' with key := kv (kf c), val := cv c })) clock), ?_, ⟨⟨_, _, heap_setBlock_same hb _, ?_, stamped_modify hS _ _ (fun _ _ => rfl) (fun e' _ he' => by rw [hj] at he'; cases he'; exact h3.symm)⟩, hsz⟩, ⟨rfl, rfl, rfl, by simp [setBlock], fun i _ hi => heap_setBlock_other hb _ (fun e => hi (by rw [e]))⟩⟩
    · simp [Instr.mapUpdate, run_underlying Tryz.underlying153, MapKept.run_getObj_map hb, keyC.check w false hkl, h1, hj, h3, keyC.stays w hkl, MapKept.run_setObj_map _ hb, Result.andThen, setBlock]
    · rw [hlist, List.map_set, he, putC_at hd hdk, List.map_set]
      intro i x hi hx e
      have hil : i < es.toList.length := by have := (List.getElem?_eq_some_iff.1 h2).1; omega
      obtain ⟨y, hy, f1, _⟩ := es_get he (List.getElem?_eq_getElem hil)
      rw [hx] at hy
      cases hy
      have hP := ((stamped_iff es clock).1 hS).2.2
      have hjl := (List.getElem?_eq_some_iff.1 h2).1
      have := List.pairwise_iff_getElem.1 hP i j hil hjl hi
      rw [f1, (List.getElem?_eq_some_iff.1 h2).2, h3, e] at this
      exact this rfl
end Go.Proofs.YtkgkahlhekecmaaGreat
