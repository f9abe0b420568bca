/- Contract of the model's FormRight, at every form and every segment whose texts have at most 2^20 bytes. -/
import Derived.Test.YtphgheojfnlgjaaDoorFormI
import Derived.Deep.QuietTactic
import Derived.BigQuiet
import Derived.Deep.RegionHeld3
import Derived.Deep.SlicePairs
import Derived.Shelf.Slices.Clone
namespace Go.Proofs.YtphgheojfnlgjaaDoor
open Go.ChangeShapes Go.WideShapes Go.ChangeAt Go.RowKit Go.Shelf
theorem infoByte : (Tryd.prog.info? 5).map (fun i => (i.zero, i.size, i.bytes)) = some (some (.int .u8 0), 1, 1) := by kernel_rfl
theorem cell1_at (w : World) (x : Value) (t : TypeId) (g : Nat) (hg : g = w.heap.size) : ∀ j u, [x][j]? = some u → (w.alloc (.cells #[x] t)).cell? ((⟨g, 0, none⟩ : Addr).add j) = some u := by
  subst hg
  intro j u hj
  rcases j with _ | j
  · simp only [List.getElem?_cons_zero, Option.some.injEq] at hj
    subst hj
    simp [go_sem]
  · simp at hj
def u8V (c : UInt8) : Value := .int .u8 (c.toNat : Int)
/-- The letters so far lie in a row of the call's own. -/
def FsRow (n0 : Nat) (W : World) (v : Value) (ls : List UInt8) : Prop := W.ownsRow n0 5 1 v ls.length (ls.map u8V)
theorem fs_val {n0 : Nat} {W : World} {v : Value} {ls : List UInt8} (h : FsRow n0 W v ls) : ∃ A C, v = .slice A ls.length C := by
  rcases h.2 with ⟨rfl, e⟩ | ⟨g, cap, cur, rfl, _⟩
  · exact ⟨none, 0, by rw [e]⟩
  · exact ⟨_, cap, rfl⟩
theorem fs_cell {n0 : Nat} {W : World} {A : Option Addr} {C : Nat} {ls : List UInt8} (h : FsRow n0 W (.slice A ls.length C) ls) {k : Nat} {c : UInt8} (hk : ls[k]? = some c) : ∃ g, A = some ⟨g, 0, none⟩ ∧ W.cell? ⟨g, k, none⟩ = some (u8V c) := by
  have hkl := (List.getElem?_eq_some_iff.1 hk).1
  rcases h.2 with ⟨e, e2⟩ | ⟨g, cap, cur, e, _, hgb, _, _, _, htk⟩
  · omega
  · simp only [Value.slice.injEq] at e
    refine ⟨g, e.1, ?_⟩
    have h1 : (cur.toList.take (ls.length * 1))[k]? = (ls.map u8V)[k]? := by rw [htk]
    rw [List.getElem?_take_of_lt (by omega), List.getElem?_map, hk] at h1
    simp [World.cell?, hgb] at h1 ⊢
    exact h1
theorem fs_alloc {n0 : Nat} {W : World} {v : Value} {ls : List UInt8} (h : FsRow n0 W v ls) (o : Obj) : (W.alloc o).ownsRow n0 5 1 v ls.length (ls.map u8V) := World.ownsRow.alloc h o
theorem fs_app {n0 : Nat} {w0 W W' : World} {A : Option Addr} {C : Nat} {v' : Value} {ls : List UInt8} {c : UInt8} {x : Int} {o : Obj} (hx : x = (c.toNat : Int)) (hR : FsRow n0 W (.slice A ls.length C) ls ∧ Below n0 w0 W) (hn : n0 ≤ W.heap.size) (h : W'.ownsRow n0 5 1 v' (ls.length + 1) (ls.map u8V ++ [.int .u8 x])) (hg : (W.alloc o).grownBy W' (Value.slice A ls.length C).ownBlock) : FsRow n0 W' v' (ls ++ [c]) ∧ Below n0 w0 W' := by
  refine ⟨?_, ?_⟩
  · unfold FsRow
    rw [List.length_append, List.map_append]
    subst hx
    exact h
  · refine (hR.2.alloc hn o).grown hg (by rw [World.size_alloc]; omega) fun k hk => ?_
    rcases hR.1.2 with ⟨e, _⟩ | ⟨g, cap, cur, e, hb, _⟩
    · rw [e] at hk; cases hk
    · rw [e] at hk
      simp only [Value.ownBlock, Option.some.injEq] at hk
      omega
theorem fm_let {f : ByteArray} {k : Nat} {ls : List UInt8} {m : Int} (h : fm (f.data.toList.drop k) ls m = fm f.data.toList [] (-1)) (hk : k < f.size) (h63 : (f[k]'hk).toNat ≠ 63) (hl : ltB (f[k]'hk) = true) : fm (f.data.toList.drop (k + 1)) (ls ++ [f[k]'hk]) m = fm f.data.toList [] (-1) := by
  rw [← h, List.drop_eq_getElem_cons (show k < f.data.toList.length from hk)]
  have e : f.data.toList[k] = f[k]'hk := rfl
  rw [e, fm, if_neg (fun e => h63 (by rw [e]; rfl)), if_pos hl]
theorem fm_no {f : ByteArray} {k : Nat} {ls : List UInt8} {m : Int} (h : fm (f.data.toList.drop k) ls m = fm f.data.toList [] (-1)) (hk : k < f.size) (h63 : (f[k]'hk).toNat ≠ 63) (hl : ltB (f[k]'hk) = false) : formF f.data.toList = none := by
  unfold formF
  rw [← h, List.drop_eq_getElem_cons (show k < f.data.toList.length from hk)]
  have e : f.data.toList[k] = f[k]'hk := rfl
  rw [e, fm, if_neg (fun e => h63 (by rw [e]; rfl)), hl]
  rfl
theorem eq63 {c : UInt8} (h : (c.toNat : Int) = 63) : c = 63 := by
  have : UInt8.ofNat c.toNat = UInt8.ofNat 63 := by rw [show c.toNat = 63 by omega]
  simpa using this
theorem fm_two {f : ByteArray} {k : Nat} {ls : List UInt8} {m : Int} (h : fm (f.data.toList.drop k) ls m = fm f.data.toList [] (-1)) (hk : k < f.size) (h63 : ((f[k]'hk).toNat : Int) = 63) (hm : 0 ≤ m) : formF f.data.toList = none := by
  unfold formF
  rw [← h, List.drop_eq_getElem_cons (show k < f.data.toList.length from hk)]
  have e : f.data.toList[k] = 63 := eq63 h63
  rw [e, fm, if_pos rfl, if_pos hm]
theorem fm_mark {f : ByteArray} {k : Nat} {ls : List UInt8} {m : Int} (h : fm (f.data.toList.drop k) ls m = fm f.data.toList [] (-1)) (hk : k < f.size) (h63 : ((f[k]'hk).toNat : Int) = 63) (hm : m < 0) : fm (f.data.toList.drop (k + 1)) ls ls.length = fm f.data.toList [] (-1) := by
  rw [← h, List.drop_eq_getElem_cons (show k < f.data.toList.length from hk)]
  have e : f.data.toList[k] = 63 := eq63 h63
  rw [e, fm, if_pos rfl, if_neg (by omega)]
theorem fm_end {f : ByteArray} {ls : List UInt8} {m : Int} (h : fm (f.data.toList.drop f.size) ls m = fm f.data.toList [] (-1)) : formF f.data.toList = some (ls, if m < 0 then ls.length else m.toNat) := by
  unfold formF
  rw [← h, List.drop_of_length_le (show f.data.toList.length ≤ f.size from Nat.le_refl _), fm]
set_option maxRecDepth 20000 in
set_option maxHeartbeats 8000000 in
theorem formRight_spec (f tag : ByteArray) (v : Value) (es : List (List ByteArray)) (w : World) (hfs : f.size ≤ 1048576) (h : RowE w v es) (hB : BdE 1048576 es) :
    Calls Tryd.prog 16 #[.string f, .agg #[.string tag, v]] w fun e w' => ∃ r : Int, e = .returned (.int .i64 r) ∧ FrO f es r ∧ Below w.heap.size w w' := by
  obtain ⟨a, cap, rfl⟩ := h.val
  obtain ⟨i0, hi, hz0, hz1, hz2⟩ := info_parts infoByte
  by_cases hf : 20000 < f.size
  · have hf' : (20000 : Int) < (f.size : Int) := by omega
    clear h
    go_enter Tryd.func16, Tryd.ntmps16
    go_wp2
    go_ret
    exact ⟨0, rfl, FrO.big hf, (Below.refl _ _).alloc (Nat.le_refl _) _⟩
  · have hf' : (f.size : Int) ≤ 20000 := by omega
    have b0 : Below w.heap.size w (w.alloc (.cells #[.string tag, .slice a es.length cap] 36)) := (Below.refl _ _).alloc (Nat.le_refl _) _
    have hes := hB.1
    have H0 : Hid (RowE (w.alloc (.cells #[.string tag, .slice a es.length cap] 36)) (.slice a es.length cap) es ∧ BdE 1048576 es) := ⟨h.below b0, hB⟩
    clear h hB
    go_enter Tryd.func16, Tryd.ntmps16
    go_wp2_with fail
    go_loopw [5, 6, 7] (fun lv mv i wr => ∃ (k : Nat) (ls : List UInt8) (m : Int) (A : Option Addr) (C : Nat), i = .int .i64 (k : Int) ∧ k ≤ f.size ∧ lv = .slice A ls.length C ∧ mv = .int .i64 m ∧ FsRow (w.heap.size + 1) wr (.slice A ls.length C) ls ∧ Below (w.heap.size + 1) (w.alloc (.cells #[.string tag, .slice a es.length cap] 36)) wr ∧ ls.length ≤ k ∧ -1 ≤ m ∧ m ≤ 20000 ∧ fm (f.data.toList.drop k) ls m = fm f.data.toList [] (-1)) (fun _ _ i _ => f.size - (intOf i).toNat)
    case atStart =>
      refine ⟨0, [], -1, _, _, rfl, by omega, rfl, rfl, ?_, (Below.refl _ _).alloc (Nat.le_of_eq (World.size_alloc ..).symm) _, by simp, by omega, by omega, by simp⟩
      have e0 := World.ownsRow_made (base := w.heap.size + 1) (e := 5) (size := 1) (w.alloc (.cells #[.string tag, .slice a es.length cap] 36)) #[] 0 (Nat.le_of_eq (World.size_alloc w _).symm) (Nat.zero_le _) rfl
      rw [World.size_alloc] at e0
      exact e0
    case round =>
      obtain ⟨k, ls, m, A, C, rfl, hk, rfl, rfl, hrow, hbel, hlk, hm0, hm1, hfm⟩ := hrel
      have HR : Hid (FsRow (w.heap.size + 1) wr (.slice A ls.length C) ls ∧ Below (w.heap.size + 1) (w.alloc (.cells #[.string tag, .slice a es.length cap] 36)) wr) := ⟨hrow, hbel⟩
      have HF : Hid (fm (f.data.toList.drop k) ls m = fm f.data.toList [] (-1)) := hfm
      have hwz : w.heap.size + 1 ≤ wr.heap.size := by have := hbel.size; simpa using this
      have HB : Hid (Below w.heap.size w wr) := b0.trans (hbel.mono (by omega))
      clear hrow hbel hfm
      by_cases hlt : k < f.size
      · have hlt' : (k : Int) < (f.size : Int) := by omega
        have hx0 : 0 ≤ ((f[k]'hlt).toNat : Int) := by omega
        have hx1 : ((f[k]'hlt).toNat : Int) ≤ 255 := by have := (f[k]'hlt).toNat_lt; omega
        have hmx : ls.length + 1 ≤ maxLen := by unfold maxLen; omega
        by_cases h63 : ((f[k]'hlt).toNat : Int) = 63
        · have q63 : (((f[k]'hlt).toNat : Int) == 63) = true := by simpa using h63
          by_cases hm : 0 ≤ m
          · have HN : Hid (formF f.data.toList = none) := fm_two HF.out hlt h63 hm
            clear h63
            go_wp2
            go_ret
            exact ⟨0, rfl, FrO.none_ (by omega) HN.out, HB.out⟩
          · have hm' : m < 0 := by omega
            have HM := fm_mark HF.out hlt h63 hm'
            have HM' : Hid (fm (f.data.toList.drop (k + 1)) ls ls.length = fm f.data.toList [] (-1)) := HM
            clear HM h63
            go_wp2
            go_roundw
            case rel => exact ⟨k + 1, ls, ls.length, A, C, by go_num, by omega, rfl, rfl, HR.out.1, HR.out.2, by omega, by omega, by omega, HM'.out⟩
            case measure => simp [intOf]; omega
        · have q63 : (((f[k]'hlt).toNat : Int) == 63) = false := by simpa using h63
          by_cases hL : ltB (f[k]'hlt) = true
          · have hL' := hL
            simp only [ltB, letterB, decide_eq_true_eq] at hL'
            clear hL
            have hcases : ((f[k]'hlt).toNat : Int) = 114 ∨ ((f[k]'hlt).toNat : Int) = 110 ∨ ((f[k]'hlt).toNat : Int) = 113 ∨ ((f[k]'hlt).toNat : Int) = 122 ∨ ((f[k]'hlt).toNat : Int) = 100 ∨ ((f[k]'hlt).toNat : Int) = 116 := by omega
            clear hL'
            rcases hcases with hc | hc | hc | hc | hc | hc
            · have Hc : Hid (((f[k]'hlt).toNat : Int) = 114) := hc
              have q0 : (((f[k]'hlt).toNat : Int) == 114) = true := by have := Hc.out; simp; omega
              clear hc
              have tok1 : True := trivial
              go_wp2_with (first | (at_builtin; have _t := tok1; refine wpList_append_own _ rfl _ _ 22 rfl (w.heap.size + 1) 5 i0 (.int .u8 0) 1 1 Tryd.underlying22 hi hz0 hz1 hz2 rfl (by decide) _ _ _ rfl (fs_alloc HR.out.1 _) ⟨_, 0, none⟩ 1 1 [.int .u8 114] rfl rfl (cell1_at _ _ _ _ (by simp)) (by simp [Value.oneCell']) hmx (by omega) (by simp; omega) ?_; intro v4 w4 hown2 hgrow2 _; have hR4 := fs_app (c := f[k]'hlt) Hc.out.symm HR.out (by omega) hown2 hgrow2; clear tok1 hown2 hgrow2) | (at_builtin; have _t := tok1; refine wpList_append_own _ rfl _ _ 22 rfl (w.heap.size + 1) 5 i0 (.int .u8 0) 1 1 Tryd.underlying22 hi hz0 hz1 hz2 rfl (by decide) _ _ _ rfl (fs_alloc HR.out.1 _) ⟨_, 0, none⟩ 1 1 [.int .u8 ((f[k]'hlt).toNat : Int)] rfl rfl (cell1_at _ _ _ _ (by simp)) (by simp [Value.oneCell']) hmx (by omega) (by simp; omega) ?_; intro v4 w4 hown2 hgrow2 _; have hR4 := fs_app (c := f[k]'hlt) rfl HR.out (by omega) hown2 hgrow2; clear tok1 hown2 hgrow2))
              obtain ⟨A4, C4, rfl⟩ := fs_val hR4.1
              go_roundw
              case rel => exact ⟨k + 1, ls ++ [f[k]'hlt], m, A4, C4, by go_num, by omega, by simp, rfl, hR4.1, hR4.2, by simp; omega, hm0, hm1, fm_let HF.out hlt (by have := Hc.out; omega) (by have := Hc.out; simp [ltB, letterB]; omega)⟩
              case measure => simp [intOf]; omega
            · have Hc : Hid (((f[k]'hlt).toNat : Int) = 110) := hc
              have q0 : (((f[k]'hlt).toNat : Int) != 114) = true := by have := Hc.out; simp; omega
              have p0 : ¬ ((f[k]'hlt).toNat : Int) = 114 := by have := Hc.out; omega
              have q1 : (((f[k]'hlt).toNat : Int) == 110) = true := by have := Hc.out; simp; omega
              clear hc
              have tok1 : True := trivial
              go_wp2_with (first | (at_builtin; have _t := tok1; refine wpList_append_own _ rfl _ _ 22 rfl (w.heap.size + 1) 5 i0 (.int .u8 0) 1 1 Tryd.underlying22 hi hz0 hz1 hz2 rfl (by decide) _ _ _ rfl (fs_alloc HR.out.1 _) ⟨_, 0, none⟩ 1 1 [.int .u8 110] rfl rfl (cell1_at _ _ _ _ (by simp)) (by simp [Value.oneCell']) hmx (by omega) (by simp; omega) ?_; intro v4 w4 hown2 hgrow2 _; have hR4 := fs_app (c := f[k]'hlt) Hc.out.symm HR.out (by omega) hown2 hgrow2; clear tok1 hown2 hgrow2) | (at_builtin; have _t := tok1; refine wpList_append_own _ rfl _ _ 22 rfl (w.heap.size + 1) 5 i0 (.int .u8 0) 1 1 Tryd.underlying22 hi hz0 hz1 hz2 rfl (by decide) _ _ _ rfl (fs_alloc HR.out.1 _) ⟨_, 0, none⟩ 1 1 [.int .u8 ((f[k]'hlt).toNat : Int)] rfl rfl (cell1_at _ _ _ _ (by simp)) (by simp [Value.oneCell']) hmx (by omega) (by simp; omega) ?_; intro v4 w4 hown2 hgrow2 _; have hR4 := fs_app (c := f[k]'hlt) rfl HR.out (by omega) hown2 hgrow2; clear tok1 hown2 hgrow2))
              obtain ⟨A4, C4, rfl⟩ := fs_val hR4.1
              go_roundw
              case rel => exact ⟨k + 1, ls ++ [f[k]'hlt], m, A4, C4, by go_num, by omega, by simp, rfl, hR4.1, hR4.2, by simp; omega, hm0, hm1, fm_let HF.out hlt (by have := Hc.out; omega) (by have := Hc.out; simp [ltB, letterB]; omega)⟩
              case measure => simp [intOf]; omega
            · have Hc : Hid (((f[k]'hlt).toNat : Int) = 113) := hc
              have q0 : (((f[k]'hlt).toNat : Int) != 114) = true := by have := Hc.out; simp; omega
              have p0 : ¬ ((f[k]'hlt).toNat : Int) = 114 := by have := Hc.out; omega
              have q1 : (((f[k]'hlt).toNat : Int) != 110) = true := by have := Hc.out; simp; omega
              have p1 : ¬ ((f[k]'hlt).toNat : Int) = 110 := by have := Hc.out; omega
              have q2 : (((f[k]'hlt).toNat : Int) == 113) = true := by have := Hc.out; simp; omega
              clear hc
              have tok1 : True := trivial
              go_wp2_with (first | (at_builtin; have _t := tok1; refine wpList_append_own _ rfl _ _ 22 rfl (w.heap.size + 1) 5 i0 (.int .u8 0) 1 1 Tryd.underlying22 hi hz0 hz1 hz2 rfl (by decide) _ _ _ rfl (fs_alloc HR.out.1 _) ⟨_, 0, none⟩ 1 1 [.int .u8 113] rfl rfl (cell1_at _ _ _ _ (by simp)) (by simp [Value.oneCell']) hmx (by omega) (by simp; omega) ?_; intro v4 w4 hown2 hgrow2 _; have hR4 := fs_app (c := f[k]'hlt) Hc.out.symm HR.out (by omega) hown2 hgrow2; clear tok1 hown2 hgrow2) | (at_builtin; have _t := tok1; refine wpList_append_own _ rfl _ _ 22 rfl (w.heap.size + 1) 5 i0 (.int .u8 0) 1 1 Tryd.underlying22 hi hz0 hz1 hz2 rfl (by decide) _ _ _ rfl (fs_alloc HR.out.1 _) ⟨_, 0, none⟩ 1 1 [.int .u8 ((f[k]'hlt).toNat : Int)] rfl rfl (cell1_at _ _ _ _ (by simp)) (by simp [Value.oneCell']) hmx (by omega) (by simp; omega) ?_; intro v4 w4 hown2 hgrow2 _; have hR4 := fs_app (c := f[k]'hlt) rfl HR.out (by omega) hown2 hgrow2; clear tok1 hown2 hgrow2))
              obtain ⟨A4, C4, rfl⟩ := fs_val hR4.1
              go_roundw
              case rel => exact ⟨k + 1, ls ++ [f[k]'hlt], m, A4, C4, by go_num, by omega, by simp, rfl, hR4.1, hR4.2, by simp; omega, hm0, hm1, fm_let HF.out hlt (by have := Hc.out; omega) (by have := Hc.out; simp [ltB, letterB]; omega)⟩
              case measure => simp [intOf]; omega
            · have Hc : Hid (((f[k]'hlt).toNat : Int) = 122) := hc
              have q0 : (((f[k]'hlt).toNat : Int) != 114) = true := by have := Hc.out; simp; omega
              have p0 : ¬ ((f[k]'hlt).toNat : Int) = 114 := by have := Hc.out; omega
              have q1 : (((f[k]'hlt).toNat : Int) != 110) = true := by have := Hc.out; simp; omega
              have p1 : ¬ ((f[k]'hlt).toNat : Int) = 110 := by have := Hc.out; omega
              have q2 : (((f[k]'hlt).toNat : Int) != 113) = true := by have := Hc.out; simp; omega
              have p2 : ¬ ((f[k]'hlt).toNat : Int) = 113 := by have := Hc.out; omega
              have q3 : (((f[k]'hlt).toNat : Int) == 122) = true := by have := Hc.out; simp; omega
              clear hc
              have tok1 : True := trivial
              go_wp2_with (first | (at_builtin; have _t := tok1; refine wpList_append_own _ rfl _ _ 22 rfl (w.heap.size + 1) 5 i0 (.int .u8 0) 1 1 Tryd.underlying22 hi hz0 hz1 hz2 rfl (by decide) _ _ _ rfl (fs_alloc HR.out.1 _) ⟨_, 0, none⟩ 1 1 [.int .u8 122] rfl rfl (cell1_at _ _ _ _ (by simp)) (by simp [Value.oneCell']) hmx (by omega) (by simp; omega) ?_; intro v4 w4 hown2 hgrow2 _; have hR4 := fs_app (c := f[k]'hlt) Hc.out.symm HR.out (by omega) hown2 hgrow2; clear tok1 hown2 hgrow2) | (at_builtin; have _t := tok1; refine wpList_append_own _ rfl _ _ 22 rfl (w.heap.size + 1) 5 i0 (.int .u8 0) 1 1 Tryd.underlying22 hi hz0 hz1 hz2 rfl (by decide) _ _ _ rfl (fs_alloc HR.out.1 _) ⟨_, 0, none⟩ 1 1 [.int .u8 ((f[k]'hlt).toNat : Int)] rfl rfl (cell1_at _ _ _ _ (by simp)) (by simp [Value.oneCell']) hmx (by omega) (by simp; omega) ?_; intro v4 w4 hown2 hgrow2 _; have hR4 := fs_app (c := f[k]'hlt) rfl HR.out (by omega) hown2 hgrow2; clear tok1 hown2 hgrow2))
              obtain ⟨A4, C4, rfl⟩ := fs_val hR4.1
              go_roundw
              case rel => exact ⟨k + 1, ls ++ [f[k]'hlt], m, A4, C4, by go_num, by omega, by simp, rfl, hR4.1, hR4.2, by simp; omega, hm0, hm1, fm_let HF.out hlt (by have := Hc.out; omega) (by have := Hc.out; simp [ltB, letterB]; omega)⟩
              case measure => simp [intOf]; omega
            · have Hc : Hid (((f[k]'hlt).toNat : Int) = 100) := hc
              have q0 : (((f[k]'hlt).toNat : Int) != 114) = true := by have := Hc.out; simp; omega
              have p0 : ¬ ((f[k]'hlt).toNat : Int) = 114 := by have := Hc.out; omega
              have q1 : (((f[k]'hlt).toNat : Int) != 110) = true := by have := Hc.out; simp; omega
              have p1 : ¬ ((f[k]'hlt).toNat : Int) = 110 := by have := Hc.out; omega
              have q2 : (((f[k]'hlt).toNat : Int) != 113) = true := by have := Hc.out; simp; omega
              have p2 : ¬ ((f[k]'hlt).toNat : Int) = 113 := by have := Hc.out; omega
              have q3 : (((f[k]'hlt).toNat : Int) != 122) = true := by have := Hc.out; simp; omega
              have p3 : ¬ ((f[k]'hlt).toNat : Int) = 122 := by have := Hc.out; omega
              have q4 : (((f[k]'hlt).toNat : Int) == 100) = true := by have := Hc.out; simp; omega
              clear hc
              have tok1 : True := trivial
              go_wp2_with (first | (at_builtin; have _t := tok1; refine wpList_append_own _ rfl _ _ 22 rfl (w.heap.size + 1) 5 i0 (.int .u8 0) 1 1 Tryd.underlying22 hi hz0 hz1 hz2 rfl (by decide) _ _ _ rfl (fs_alloc HR.out.1 _) ⟨_, 0, none⟩ 1 1 [.int .u8 100] rfl rfl (cell1_at _ _ _ _ (by simp)) (by simp [Value.oneCell']) hmx (by omega) (by simp; omega) ?_; intro v4 w4 hown2 hgrow2 _; have hR4 := fs_app (c := f[k]'hlt) Hc.out.symm HR.out (by omega) hown2 hgrow2; clear tok1 hown2 hgrow2) | (at_builtin; have _t := tok1; refine wpList_append_own _ rfl _ _ 22 rfl (w.heap.size + 1) 5 i0 (.int .u8 0) 1 1 Tryd.underlying22 hi hz0 hz1 hz2 rfl (by decide) _ _ _ rfl (fs_alloc HR.out.1 _) ⟨_, 0, none⟩ 1 1 [.int .u8 ((f[k]'hlt).toNat : Int)] rfl rfl (cell1_at _ _ _ _ (by simp)) (by simp [Value.oneCell']) hmx (by omega) (by simp; omega) ?_; intro v4 w4 hown2 hgrow2 _; have hR4 := fs_app (c := f[k]'hlt) rfl HR.out (by omega) hown2 hgrow2; clear tok1 hown2 hgrow2))
              obtain ⟨A4, C4, rfl⟩ := fs_val hR4.1
              go_roundw
              case rel => exact ⟨k + 1, ls ++ [f[k]'hlt], m, A4, C4, by go_num, by omega, by simp, rfl, hR4.1, hR4.2, by simp; omega, hm0, hm1, fm_let HF.out hlt (by have := Hc.out; omega) (by have := Hc.out; simp [ltB, letterB]; omega)⟩
              case measure => simp [intOf]; omega
            · have Hc : Hid (((f[k]'hlt).toNat : Int) = 116) := hc
              have q0 : (((f[k]'hlt).toNat : Int) != 114) = true := by have := Hc.out; simp; omega
              have p0 : ¬ ((f[k]'hlt).toNat : Int) = 114 := by have := Hc.out; omega
              have q1 : (((f[k]'hlt).toNat : Int) != 110) = true := by have := Hc.out; simp; omega
              have p1 : ¬ ((f[k]'hlt).toNat : Int) = 110 := by have := Hc.out; omega
              have q2 : (((f[k]'hlt).toNat : Int) != 113) = true := by have := Hc.out; simp; omega
              have p2 : ¬ ((f[k]'hlt).toNat : Int) = 113 := by have := Hc.out; omega
              have q3 : (((f[k]'hlt).toNat : Int) != 122) = true := by have := Hc.out; simp; omega
              have p3 : ¬ ((f[k]'hlt).toNat : Int) = 122 := by have := Hc.out; omega
              have q4 : (((f[k]'hlt).toNat : Int) != 100) = true := by have := Hc.out; simp; omega
              have p4 : ¬ ((f[k]'hlt).toNat : Int) = 100 := by have := Hc.out; omega
              have q5 : (((f[k]'hlt).toNat : Int) == 116) = true := by have := Hc.out; simp; omega
              clear hc
              have tok1 : True := trivial
              go_wp2_with (first | (at_builtin; have _t := tok1; refine wpList_append_own _ rfl _ _ 22 rfl (w.heap.size + 1) 5 i0 (.int .u8 0) 1 1 Tryd.underlying22 hi hz0 hz1 hz2 rfl (by decide) _ _ _ rfl (fs_alloc HR.out.1 _) ⟨_, 0, none⟩ 1 1 [.int .u8 116] rfl rfl (cell1_at _ _ _ _ (by simp)) (by simp [Value.oneCell']) hmx (by omega) (by simp; omega) ?_; intro v4 w4 hown2 hgrow2 _; have hR4 := fs_app (c := f[k]'hlt) Hc.out.symm HR.out (by omega) hown2 hgrow2; clear tok1 hown2 hgrow2) | (at_builtin; have _t := tok1; refine wpList_append_own _ rfl _ _ 22 rfl (w.heap.size + 1) 5 i0 (.int .u8 0) 1 1 Tryd.underlying22 hi hz0 hz1 hz2 rfl (by decide) _ _ _ rfl (fs_alloc HR.out.1 _) ⟨_, 0, none⟩ 1 1 [.int .u8 ((f[k]'hlt).toNat : Int)] rfl rfl (cell1_at _ _ _ _ (by simp)) (by simp [Value.oneCell']) hmx (by omega) (by simp; omega) ?_; intro v4 w4 hown2 hgrow2 _; have hR4 := fs_app (c := f[k]'hlt) rfl HR.out (by omega) hown2 hgrow2; clear tok1 hown2 hgrow2))
              obtain ⟨A4, C4, rfl⟩ := fs_val hR4.1
              go_roundw
              case rel => exact ⟨k + 1, ls ++ [f[k]'hlt], m, A4, C4, by go_num, by omega, by simp, rfl, hR4.1, hR4.2, by simp; omega, hm0, hm1, fm_let HF.out hlt (by have := Hc.out; omega) (by have := Hc.out; simp [ltB, letterB]; omega)⟩
              case measure => simp [intOf]; omega
          · have hL' : ltB (f[k]'hlt) = false := by simpa using hL
            have HN : Hid (formF f.data.toList = none) := fm_no HF.out hlt (by omega) hL'
            simp only [ltB, letterB, decide_eq_true_eq] at hL
            clear hL'
            have q0 : (((f[k]'hlt).toNat : Int) != 114) = true := by simp; omega
            have p0 : ¬ ((f[k]'hlt).toNat : Int) = 114 := by omega
            have q1 : (((f[k]'hlt).toNat : Int) != 110) = true := by simp; omega
            have p1 : ¬ ((f[k]'hlt).toNat : Int) = 110 := by omega
            have q2 : (((f[k]'hlt).toNat : Int) != 113) = true := by simp; omega
            have p2 : ¬ ((f[k]'hlt).toNat : Int) = 113 := by omega
            have q3 : (((f[k]'hlt).toNat : Int) != 122) = true := by simp; omega
            have p3 : ¬ ((f[k]'hlt).toNat : Int) = 122 := by omega
            have q4 : (((f[k]'hlt).toNat : Int) != 100) = true := by simp; omega
            have p4 : ¬ ((f[k]'hlt).toNat : Int) = 100 := by omega
            have q5 : (((f[k]'hlt).toNat : Int) != 116) = true := by simp; omega
            have p5 : ¬ ((f[k]'hlt).toNat : Int) = 116 := by omega
            clear hL h63
            go_wp2
            go_ret
            exact ⟨0, rfl, FrO.none_ (by omega) HN.out, HB.out⟩
      · obtain rfl : k = f.size := by omega
        have HE := fm_end HF.out
        clear HF hk hlt
        generalize wr = w1 at *
        have HW0 : Hid (Below (w.alloc (.cells #[.string tag, .slice a es.length cap] 36)).heap.size (w.alloc (.cells #[.string tag, .slice a es.length cap] 36)) w1) := HR.out.2.mono (Nat.le_of_eq (World.size_alloc ..))
        have d0 : w1.cell? ⟨w.heap.size, 1, none⟩ = some (.slice a es.length cap) := (HR.out.2.cell (p := ⟨w.heap.size, 1, none⟩) (by simp)).trans (by simp [go_sem])
        by_cases hm : m < 0
        · rw [if_pos hm] at HE
          have HE' : Hid (formF f.data.toList = some (ls, ls.length)) := HE
          clear HE
          have hM : ls.length ≤ 20000 := by omega
          go_wp2_with fail
          go_loopw [9] (fun i wr => ∃ k : Nat, i = .int .i64 (k : Int) ∧ k ≤ es.length ∧ (∀ j, j < k → ¬ badAt ls es j) ∧ Below w1.heap.size w1 wr) (fun i _ => es.length - (intOf i).toNat)
          case atStart => exact ⟨0, rfl, by omega, fun j h => by omega, Below.refl _ _⟩
          case round =>
            obtain ⟨k, rfl, hk, hA, hb⟩ := hrel
            have HA : Hid ((∀ j, j < k → ¬ badAt ls es j) ∧ Below w1.heap.size w1 wr) := ⟨hA, hb⟩
            have d1 : wr.cell? ⟨w.heap.size, 1, none⟩ = some (.slice a es.length cap) := (hb.cell (cell_lt d0)).trans d0
            have HW : Hid (Below w.heap.size w wr) := HB.out.trans (hb.mono HB.out.size)
            clear hA d0
            by_cases hlt : k < es.length
            · have hlt' : (k : Int) < (es.length : Int) := by omega
              have hlt2 : decide ((k : Int) < (es.length : Int)) = true := by simpa using hlt'
              have hlt3 : decide ((es.length : Int) ≤ (k : Int)) = false := by simp; omega
              have hlt4 : decide (es.length ≤ k) = false := by simp; omega
              obtain ⟨b, o, c1, e, u, hv, he, hc, hu⟩ := ((H0.out.1.below HW0.out).below hb).at hlt
              simp only [Value.slice.injEq, true_and] at hv
              obtain ⟨rfl, rfl⟩ := hv
              have hBe : BdS 1048576 e := H0.out.2.2 k e he
              have He : Hid (es[k]? = some e) := he
              have hRw := HR.out.1
              clear he
              obtain ⟨ua, uc, rfl⟩ := hu.val
              by_cases hkl : k < ls.length
              · have hkl' : (k : Int) < (ls.length : Int) := by omega
                have hkl3 : decide ((ls.length : Int) ≤ (k : Int)) = false := by simp; omega
                have hkl4 : decide (ls.length ≤ k) = false := by simp; omega
                have hcc : ls[k]? = some (ls[k]'hkl) := List.getElem?_eq_getElem hkl
                have HK : Hid (ls[k]? = some (ls[k]'hkl)) := hcc
                have hltr : letterB ((ls[k]'hkl).toNat : Int) = true := List.all_eq_true.1 (formF_all HE'.out) _ (List.getElem_mem hkl)
                obtain ⟨g, rfl, hcg⟩ := fs_cell hRw hcc
                have hcg2 := (hb.cell (cell_lt hcg)).trans hcg
                clear hRw hcc hcg
                generalize ls[k]'hkl = cl at *
                unfold u8V at hcg2
                have hy0 : 0 ≤ (cl.toNat : Int) := by omega
                have hy1 : (cl.toNat : Int) ≤ 255 := by have := cl.toNat_lt; omega
                have g1 := cell_lt d1
                have g2 := cell_lt hcg2
                have g3 := cell_lt hc
                clear hb
                cases hbv : elemB (cl.toNat : Int) e with
                | true =>
                  go_wp2_with fail
                  go_region_held3 (fun w' => w'.cell? ⟨w.heap.size, 1, none⟩ = some (.slice (some ⟨b, o, none⟩) es.length cap) ∧ w'.cell? ⟨g, k, none⟩ = some (.int .u8 (cl.toNat : Int)) ∧ w'.cell? ⟨b, o + k, none⟩ = some (.slice ua e.length uc)) (go_keep) (first | (go_at_call 26; refine (l04Element_any _ _ e _ hltr (hu.below (Below.refl _ _).drew) hBe).mono ?_; rintro e1 w3 ⟨rfl, hb3⟩; rw [hbv]; have k1 := (hb3.cell (p := ⟨w.heap.size, 1, none⟩) g1).trans (show wr.drew.cell? _ = _ from d1); have k2 := (hb3.cell (p := ⟨g, k, none⟩) g2).trans (show wr.drew.cell? _ = _ from hcg2); have k3 := (hb3.cell (p := ⟨b, o + k, none⟩) g3).trans (show wr.drew.cell? _ = _ from hc)))
                  have HW3 : Hid (Below w1.heap.size w1 w3) := HA.out.2.trans (((Below.refl _ wr).drew.trans hb3).mono HA.out.2.size)
                  clear hb3 hu
                  go_wp2
                  go_roundw
                  case rel =>
                    refine ⟨k + 1, by go_num, by omega, fun j hj => ?_, HW3.out⟩
                    rcases Nat.lt_or_ge j k with g | g
                    · exact HA.out.1 j g
                    · obtain rfl : j = k := by omega
                      exact not_bad HK.out He.out hbv
                  case measure => simp [intOf]; omega
                | false =>
                  go_wp2_with fail
                  go_region_held3 (fun w' => w'.cell? ⟨w.heap.size, 1, none⟩ = some (.slice (some ⟨b, o, none⟩) es.length cap) ∧ w'.cell? ⟨g, k, none⟩ = some (.int .u8 (cl.toNat : Int)) ∧ w'.cell? ⟨b, o + k, none⟩ = some (.slice ua e.length uc)) (go_keep) (first | (go_at_call 26; refine (l04Element_any _ _ e _ hltr (hu.below (Below.refl _ _).drew) hBe).mono ?_; rintro e1 w3 ⟨rfl, hb3⟩; rw [hbv]; have k1 := (hb3.cell (p := ⟨w.heap.size, 1, none⟩) g1).trans (show wr.drew.cell? _ = _ from d1); have k2 := (hb3.cell (p := ⟨g, k, none⟩) g2).trans (show wr.drew.cell? _ = _ from hcg2); have k3 := (hb3.cell (p := ⟨b, o + k, none⟩) g3).trans (show wr.drew.cell? _ = _ from hc)))
                  have HW3 : Hid (Below w.heap.size w w3) := HW.out.trans (((Below.refl _ wr).drew.trans hb3).mono HW.out.size)
                  clear hb3 hu
                  go_wp2
                  go_ret
                  exact ⟨(k : Int), rfl, FrO.some_ (by omega) HE'.out (.inl ⟨k, hlt, rfl, is_bad HK.out He.out hbv, HA.out.1⟩), HW3.out⟩
              · have hkl' : (ls.length : Int) ≤ (k : Int) := by omega
                have hkl3 : decide ((ls.length : Int) ≤ (k : Int)) = true := by simp; omega
                have hkl4 : decide (ls.length ≤ k) = true := by simp; omega
                clear hb hRw hu
                go_wp2_with fail
                go_quiet (fail)
                go_wp2
                go_ret
                exact ⟨(k : Int), rfl, FrO.some_ (by omega) HE'.out (.inl ⟨k, hlt, rfl, .inl (by omega), HA.out.1⟩), by first | exact below_drewN HW.out _ | exact HW.out⟩
            · obtain rfl : k = es.length := by omega
              have hlt2 : decide ((es.length : Int) < (es.length : Int)) = false := by simp
              have hlt3 : decide ((es.length : Int) ≤ (es.length : Int)) = true := by simp
              clear hb
              by_cases hml : es.length < ls.length
              · have hml' : (es.length : Int) < (ls.length : Int) := by omega
                have hml2 : decide ((es.length : Int) < (ls.length : Int)) = true := by simpa using hml'
                go_wp2_with fail
                go_quiet (fail)
                go_wp2
                go_ret
                exact ⟨(es.length : Int), rfl, FrO.some_ (by omega) HE'.out (.inr ⟨HA.out.1, .inl ⟨hml, rfl⟩⟩), by first | exact below_drewN HW.out _ | exact HW.out⟩
              · have hml' : (ls.length : Int) ≤ (es.length : Int) := by omega
                have hml2 : decide ((es.length : Int) < (ls.length : Int)) = false := by simp; omega
                go_wp2
                go_ret
                exact ⟨-1, rfl, FrO.some_ (by omega) HE'.out (.inr ⟨HA.out.1, .inr ⟨by omega, rfl⟩⟩), HW.out⟩
        · rw [if_neg hm] at HE
          obtain ⟨mn, rfl⟩ : ∃ mn : Nat, m = (mn : Int) := ⟨m.toNat, by omega⟩
          rw [Int.toNat_natCast] at HE
          have HE' : Hid (formF f.data.toList = some (ls, mn)) := HE
          clear HE
          have hM : mn ≤ 20000 := by omega
          have hm' : (0 : Int) ≤ (mn : Int) := by omega
          go_wp2_with fail
          go_loopw [9] (fun i wr => ∃ k : Nat, i = .int .i64 (k : Int) ∧ k ≤ es.length ∧ (∀ j, j < k → ¬ badAt ls es j) ∧ Below w1.heap.size w1 wr) (fun i _ => es.length - (intOf i).toNat)
          case atStart => exact ⟨0, rfl, by omega, fun j h => by omega, Below.refl _ _⟩
          case round =>
            obtain ⟨k, rfl, hk, hA, hb⟩ := hrel
            have HA : Hid ((∀ j, j < k → ¬ badAt ls es j) ∧ Below w1.heap.size w1 wr) := ⟨hA, hb⟩
            have d1 : wr.cell? ⟨w.heap.size, 1, none⟩ = some (.slice a es.length cap) := (hb.cell (cell_lt d0)).trans d0
            have HW : Hid (Below w.heap.size w wr) := HB.out.trans (hb.mono HB.out.size)
            clear hA d0
            by_cases hlt : k < es.length
            · have hlt' : (k : Int) < (es.length : Int) := by omega
              have hlt2 : decide ((k : Int) < (es.length : Int)) = true := by simpa using hlt'
              have hlt3 : decide ((es.length : Int) ≤ (k : Int)) = false := by simp; omega
              have hlt4 : decide (es.length ≤ k) = false := by simp; omega
              obtain ⟨b, o, c1, e, u, hv, he, hc, hu⟩ := ((H0.out.1.below HW0.out).below hb).at hlt
              simp only [Value.slice.injEq, true_and] at hv
              obtain ⟨rfl, rfl⟩ := hv
              have hBe : BdS 1048576 e := H0.out.2.2 k e he
              have He : Hid (es[k]? = some e) := he
              have hRw := HR.out.1
              clear he
              obtain ⟨ua, uc, rfl⟩ := hu.val
              by_cases hkl : k < ls.length
              · have hkl' : (k : Int) < (ls.length : Int) := by omega
                have hkl3 : decide ((ls.length : Int) ≤ (k : Int)) = false := by simp; omega
                have hkl4 : decide (ls.length ≤ k) = false := by simp; omega
                have hcc : ls[k]? = some (ls[k]'hkl) := List.getElem?_eq_getElem hkl
                have HK : Hid (ls[k]? = some (ls[k]'hkl)) := hcc
                have hltr : letterB ((ls[k]'hkl).toNat : Int) = true := List.all_eq_true.1 (formF_all HE'.out) _ (List.getElem_mem hkl)
                obtain ⟨g, rfl, hcg⟩ := fs_cell hRw hcc
                have hcg2 := (hb.cell (cell_lt hcg)).trans hcg
                clear hRw hcc hcg
                generalize ls[k]'hkl = cl at *
                unfold u8V at hcg2
                have hy0 : 0 ≤ (cl.toNat : Int) := by omega
                have hy1 : (cl.toNat : Int) ≤ 255 := by have := cl.toNat_lt; omega
                have g1 := cell_lt d1
                have g2 := cell_lt hcg2
                have g3 := cell_lt hc
                clear hb
                cases hbv : elemB (cl.toNat : Int) e with
                | true =>
                  go_wp2_with fail
                  go_region_held3 (fun w' => w'.cell? ⟨w.heap.size, 1, none⟩ = some (.slice (some ⟨b, o, none⟩) es.length cap) ∧ w'.cell? ⟨g, k, none⟩ = some (.int .u8 (cl.toNat : Int)) ∧ w'.cell? ⟨b, o + k, none⟩ = some (.slice ua e.length uc)) (go_keep) (first | (go_at_call 26; refine (l04Element_any _ _ e _ hltr (hu.below (Below.refl _ _).drew) hBe).mono ?_; rintro e1 w3 ⟨rfl, hb3⟩; rw [hbv]; have k1 := (hb3.cell (p := ⟨w.heap.size, 1, none⟩) g1).trans (show wr.drew.cell? _ = _ from d1); have k2 := (hb3.cell (p := ⟨g, k, none⟩) g2).trans (show wr.drew.cell? _ = _ from hcg2); have k3 := (hb3.cell (p := ⟨b, o + k, none⟩) g3).trans (show wr.drew.cell? _ = _ from hc)))
                  have HW3 : Hid (Below w1.heap.size w1 w3) := HA.out.2.trans (((Below.refl _ wr).drew.trans hb3).mono HA.out.2.size)
                  clear hb3 hu
                  go_wp2
                  go_roundw
                  case rel =>
                    refine ⟨k + 1, by go_num, by omega, fun j hj => ?_, HW3.out⟩
                    rcases Nat.lt_or_ge j k with g | g
                    · exact HA.out.1 j g
                    · obtain rfl : j = k := by omega
                      exact not_bad HK.out He.out hbv
                  case measure => simp [intOf]; omega
                | false =>
                  go_wp2_with fail
                  go_region_held3 (fun w' => w'.cell? ⟨w.heap.size, 1, none⟩ = some (.slice (some ⟨b, o, none⟩) es.length cap) ∧ w'.cell? ⟨g, k, none⟩ = some (.int .u8 (cl.toNat : Int)) ∧ w'.cell? ⟨b, o + k, none⟩ = some (.slice ua e.length uc)) (go_keep) (first | (go_at_call 26; refine (l04Element_any _ _ e _ hltr (hu.below (Below.refl _ _).drew) hBe).mono ?_; rintro e1 w3 ⟨rfl, hb3⟩; rw [hbv]; have k1 := (hb3.cell (p := ⟨w.heap.size, 1, none⟩) g1).trans (show wr.drew.cell? _ = _ from d1); have k2 := (hb3.cell (p := ⟨g, k, none⟩) g2).trans (show wr.drew.cell? _ = _ from hcg2); have k3 := (hb3.cell (p := ⟨b, o + k, none⟩) g3).trans (show wr.drew.cell? _ = _ from hc)))
                  have HW3 : Hid (Below w.heap.size w w3) := HW.out.trans (((Below.refl _ wr).drew.trans hb3).mono HW.out.size)
                  clear hb3 hu
                  go_wp2
                  go_ret
                  exact ⟨(k : Int), rfl, FrO.some_ (by omega) HE'.out (.inl ⟨k, hlt, rfl, is_bad HK.out He.out hbv, HA.out.1⟩), HW3.out⟩
              · have hkl' : (ls.length : Int) ≤ (k : Int) := by omega
                have hkl3 : decide ((ls.length : Int) ≤ (k : Int)) = true := by simp; omega
                have hkl4 : decide (ls.length ≤ k) = true := by simp; omega
                clear hb hRw hu
                go_wp2_with fail
                go_quiet (fail)
                go_wp2
                go_ret
                exact ⟨(k : Int), rfl, FrO.some_ (by omega) HE'.out (.inl ⟨k, hlt, rfl, .inl (by omega), HA.out.1⟩), by first | exact below_drewN HW.out _ | exact HW.out⟩
            · obtain rfl : k = es.length := by omega
              have hlt2 : decide ((es.length : Int) < (es.length : Int)) = false := by simp
              have hlt3 : decide ((es.length : Int) ≤ (es.length : Int)) = true := by simp
              clear hb
              by_cases hml : es.length < mn
              · have hml' : (es.length : Int) < (mn : Int) := by omega
                have hml2 : decide ((es.length : Int) < (mn : Int)) = true := by simpa using hml'
                go_wp2_with fail
                go_quiet (fail)
                go_wp2
                go_ret
                exact ⟨(es.length : Int), rfl, FrO.some_ (by omega) HE'.out (.inr ⟨HA.out.1, .inl ⟨hml, rfl⟩⟩), by first | exact below_drewN HW.out _ | exact HW.out⟩
              · have hml' : (mn : Int) ≤ (es.length : Int) := by omega
                have hml2 : decide ((es.length : Int) < (mn : Int)) = false := by simp; omega
                go_wp2
                go_ret
                exact ⟨-1, rfl, FrO.some_ (by omega) HE'.out (.inr ⟨HA.out.1, .inr ⟨by omega, rfl⟩⟩), HW.out⟩
end Go.Proofs.YtphgheojfnlgjaaDoor
