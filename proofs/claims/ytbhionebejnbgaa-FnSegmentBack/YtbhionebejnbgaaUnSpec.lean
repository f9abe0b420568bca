/- Contract of the model's Unescape: at every four numbers and every text it answers as UnOut tells, as impl.Unescape does, and writes nothing that was there. -/
import Derived.Test.YtbhionebejnbgaaUnDef
import Derived.Test.YtbhionebejnbgaaEscSpec
import Derived.Deep.RegionHeld3
namespace Go.Proofs.Ytbhionebejnbgaa
open Go.ChangeShapes Go.WideShapes Go.ChangeAt Go.RowKit
theorem wtB_upto (s : ByteArray) (d : Int) (k : Nat) (hk : k ≤ s.size) : wtB d (upto s d k) = st s d k := by
  cases k with
  | zero => rfl
  | succ k =>
    rw [upto_succ, wtB_snoc]
    unfold waitB item
    rw [byte_getD s k (by omega), byt_raw s k (by omega)]
    rfl
theorem own_rel (a b c d : Int) : ownB a b c d d = true := by simp [ownB]
theorem own_el (a b c d x : Int) {n₀ sb : Nat} {L : List (Nat × Obj)} {w W : World} {v : Value} {xs : List Int} (h : EL n₀ L w W v xs) (hL : (sb, ((.cells #[.int .i64 a, .int .i64 b, .int .i64 c, .int .i64 d] 24) : Obj)) ∈ L) (h0 : 0 ≤ x) (h1 : x ≤ 255) :
    Calls Try.prog 67 #[.agg #[.int .i64 a, .int .i64 b, .int .i64 c, .int .i64 d], .int .u8 x] W fun e w' => e = .returned (.bool (ownB a b c d x)) ∧ EL n₀ L w w' v xs ∧ w'.cell? ⟨sb, 0, none⟩ = some (.int .i64 a) ∧ w'.cell? ⟨sb, 1, none⟩ = some (.int .i64 b) ∧ w'.cell? ⟨sb, 2, none⟩ = some (.int .i64 c) ∧ w'.cell? ⟨sb, 3, none⟩ = some (.int .i64 d) := by
  refine (own_any a b c d x W h0 h1).mono ?_
  rintro e w' ⟨rfl, hb⟩
  have hE := h.below hb
  have f1 := hE.fix _ hL
  exact ⟨rfl, hE, by simp [World.cell?, f1], by simp [World.cell?, f1], by simp [World.cell?, f1], by simp [World.cell?, f1]⟩
set_option maxRecDepth 20000 in
set_option maxHeartbeats 4000000 in
theorem un_spec_right (a b c d : Int) (s : ByteArray) (w : World) (hs : s.size ≤ 20000) (hr : rightB a b c d = true) : Calls Try.prog 59 #[.agg #[.int .i64 a, .int .i64 b, .int .i64 c, .int .i64 d], .string s] w fun e w' => ∃ t at_ code, e = .returned (.agg #[.string t, .int .i64 at_, .int .i64 code]) ∧ UnOut a b c d s t at_ code ∧ Below w.heap.size w w' := by
  have hs' : (s.size : Int) ≤ 20000 := by omega
  obtain ⟨i0, hi, hz0, hz1, hz2⟩ := info_parts info5
  have hfault : ∀ (P : List Int) (f : Int), Res a b c d s P f → 0 ≤ f → UnOut a b c d s ⟨#[]⟩ f 3 := fun P f hR h0 => .inr (.inr ⟨hs, hr, P, f, hR, .inl ⟨h0, rfl, rfl, rfl⟩⟩)
  have HF : Hid (∀ (P : List Int) (f : Int), Res a b c d s P f → 0 ≤ f → UnOut a b c d s ⟨#[]⟩ f 3) := hfault
  clear hfault
  go_enter Try.func59, Try.ntmps59
  go_wp2_with fail
  refine (right_spec a b c d _).mono ?_
  rintro e w1 ⟨rfl, hb1⟩
  have f0 := (Below.block hb1 w.heap.size (by simp; omega)).trans ((Below.heap_alloc _ _ _ (by simp)).trans (World.alloc_heap_new w _))
  have f1 := (Below.block hb1 (w.heap.size + 1) (by simp)).trans (heap_new2 w (.cells #[.int .i64 a, .int .i64 b, .int .i64 c, .int .i64 d] 24) (.cells #[.string ⟨#[]⟩, .int .i64 0, .int .i64 0] 105))
  have hB1 : Below w.heap.size w w1 := ((((Below.refl _ _).alloc (Nat.le_refl _) _).alloc (by simp) _).trans (hb1.mono (by simp; omega)))
  have hsz : w.heap.size + 1 < w1.heap.size := by have := hb1.size; simp at this; omega
  have H0 : Hid (Below w.heap.size w w1 ∧ w1.heap[w.heap.size]? = some (.cells #[.int .i64 a, .int .i64 b, .int .i64 c, .int .i64 d] 24) ∧ w1.heap[w.heap.size + 1]? = some (.cells #[.string ⟨#[]⟩, .int .i64 0, .int .i64 0] 105)) := ⟨hB1, f0, f1⟩
  clear f0 f1 hb1 hB1
  rw [hr]
  go_wp2
  go_loopw [5, 6] (fun v i wr => ∃ k : Nat, k ≤ s.size ∧ i = .int .i64 k ∧ st s d k = false ∧ (∀ y ∈ upto s d k, badB a b c d y = false) ∧ EL w.heap.size [(w.heap.size, (.cells #[.int .i64 a, .int .i64 b, .int .i64 c, .int .i64 d] 24)), (w.heap.size + 1, (.cells #[.string ⟨#[]⟩, .int .i64 0, .int .i64 0] 105))] w wr v (plainL d (upto s d k))) (fun _ i _ => s.size - (intOf i).toNat)
  case atStart =>
    refine ⟨0, Nat.zero_le _, rfl, rfl, by simp [upto], ?_, ?_, H0.out.1.alloc (by omega) _, ?_, Nat.le_refl _⟩
    · have := World.ownsRow_made (base := w.heap.size) (e := 5) (size := 1) w1 #[] 0 (by omega) (by unfold maxLen; omega) (by simp)
      simpa [plainL, upto] using this
    · intro p hp
      simp only [List.mem_cons, List.not_mem_nil, or_false] at hp
      rcases hp with rfl | rfl
      · exact (Below.heap_alloc _ _ _ (by simp; omega)).trans H0.out.2.1
      · exact (Below.heap_alloc _ _ _ (by simp; omega)).trans H0.out.2.2
    · intro p hp
      simp only [List.mem_cons, List.not_mem_nil, or_false] at hp
      rcases hp with rfl | rfl
      · exact ⟨_, _, rfl, by decide⟩
      · exact ⟨_, _, rfl, by decide⟩
  case round =>
    obtain ⟨k, hk, rfl, hst, hgood, hE⟩ := hrel
    have HG : Hid (st s d k = false ∧ ∀ y ∈ upto s d k, badB a b c d y = false) := ⟨hst, hgood⟩
    clear hst hgood
    by_cases hlt : k < s.size
    · have hlt' : (k : Int) < (s.size : Int) := by omega
      have hx0 : 0 ≤ ((s[k]'hlt).toNat : Int) := by omega
      have hx1 : ((s[k]'hlt).toNat : Int) ≤ 255 := by have := (s[k]'hlt).toNat_lt; omega
      have hpl := plainL_len d (upto s d k)
      rw [upto_length] at hpl
      have hmx1 : (plainL d (upto s d k)).length + 1 ≤ maxLen := by unfold maxLen; omega
      have f1 := hE.fix _ (List.mem_cons_self ..)
      have c0 : wr.cell? ⟨w.heap.size, 0, none⟩ = some (.int .i64 a) := by simp [World.cell?, f1]
      have c1 : wr.cell? ⟨w.heap.size, 1, none⟩ = some (.int .i64 b) := by simp [World.cell?, f1]
      have c2 : wr.cell? ⟨w.heap.size, 2, none⟩ = some (.int .i64 c) := by simp [World.cell?, f1]
      have c3 : wr.cell? ⟨w.heap.size, 3, none⟩ = some (.int .i64 d) := by simp [World.cell?, f1]
      clear f1
      go_wp2_with fail
      refine (own_any a b c d _ _ hx0 hx1).mono ?_
      rintro e w3 ⟨rfl, hb3⟩
      have hE3 := hE.below hb3
      have f1 := hE3.fix _ (List.mem_cons_self ..)
      have d0 : w3.cell? ⟨w.heap.size, 0, none⟩ = some (.int .i64 a) := by simp [World.cell?, f1]
      have d1 : w3.cell? ⟨w.heap.size, 1, none⟩ = some (.int .i64 b) := by simp [World.cell?, f1]
      have d2 : w3.cell? ⟨w.heap.size, 2, none⟩ = some (.int .i64 c) := by simp [World.cell?, f1]
      have d3 : w3.cell? ⟨w.heap.size, 3, none⟩ = some (.int .i64 d) := by simp [World.cell?, f1]
      obtain ⟨t0, t1, t2, tz⟩ := res3 (hE3.fix (w.heap.size + 1, (.cells #[.string ⟨#[]⟩, .int .i64 0, .int .i64 0] 105)) (by simp))
      clear f1 c0 c1 c2 c3 hE hb3
      cases hm : ownB a b c d ((s[k]'hlt).toNat : Int)
      · have tok1 : True := trivial
        have hnd : (((s[k]'hlt).toNat : Int) == d) = false := by
          cases h : (((s[k]'hlt).toNat : Int) == d)
          · rfl
          · simp [ownB, h] at hm
        go_wp2_with (at_builtin; have _t := tok1; refine wpList_append_own _ rfl _ _ 22 rfl w.heap.size 5 i0 (.int .u8 0) 1 1 Try.underlying22 hi hz0 hz1 hz2 rfl (by decide) _ _ _ rfl (hE3.row.alloc _) ⟨_, 0, none⟩ 1 1 [.int .u8 ((s[k]'hlt).toNat : Int)] rfl rfl (cell_one_at _ _ _ _ (by simp)) (by simp [Value.oneCell']) hmx1 (by omega) (by have := hE3.sz; simp at this ⊢; omega) ?_; intro v4 w4 hown2 hgrow2 _; have hE4 := hE3.app hown2 hgrow2; clear tok1 hown2 hgrow2)
        rw [← plainL_byte d (upto s d k) (s[k]'hlt, st s d k) (by simp [waitB, hnd]), ← item_eq s d k hlt, ← upto_succ] at hE4
        go_roundw
        case rel => exact ⟨k + 1, by omega, by go_num, by rw [st_succ s d k hlt, hnd]; simp, by rw [upto_succ, item_eq s d k hlt]; exact good_snoc HG.out.2 (by simp [badB, HG.out.1, hm]), hE4⟩
        case measure => simp [intOf]; omega
      · cases hd : (((s[k]'hlt).toNat : Int) == d)
        · have hd2 : (((s[k]'hlt).toNat : Int) != d) = true := by simp [bne, hd]
          have HR : Hid (Res a b c d s [] k) := .inl ⟨k, hlt, HG.out.2, by rw [item_eq s d k hlt]; simp [badB, HG.out.1, hd, hm], by rw [HG.out.1]; simp⟩
          go_wp2_with fail
          go_quiet (fail)
          go_wp2
          exact bodyPost_ret (v := .agg #[.string ⟨#[]⟩, .int .i64 k, .int .i64 3]) (by simp [results, Try.results59, go_sem, t0, t1, t2]) rfl ⟨_, _, _, rfl, HF.out [] k HR.out (by omega), sets3 (below_drewN hE3.bel _) (by omega) _ _ _⟩
        · have hd2 : (((s[k]'hlt).toNat : Int) != d) = false := by simp [bne, hd]
          by_cases hlt2 : k + 1 < s.size
          · have hlt2' : (k : Int) + 1 < (s.size : Int) := by omega
            have he2 : ((k : Int) + 1 == (s.size : Int)) = false := by simp; omega
            have hwr : IntKind.i64.wrap ((s[k]'hlt).toNat : Int) = ((s[k]'hlt).toNat : Int) := by rw [IntKind.wrap_i64]; omega
            have hwk : IntKind.i64.wrap ((k : Int) + 1) = (k : Int) + 1 := by rw [IntKind.wrap_i64]; omega
            have hy0 : 0 ≤ ((s[k + 1]'hlt2).toNat : Int) := by omega
            have hy1 : ((s[k + 1]'hlt2).toNat : Int) ≤ 255 := by have := (s[k + 1]'hlt2).toNat_lt; omega
            go_wp2_with fail
            go_region_held3 (fun w' => w'.cell? ⟨w.heap.size, 0, none⟩ = some (.int .i64 a) ∧ w'.cell? ⟨w.heap.size, 1, none⟩ = some (.int .i64 b) ∧ w'.cell? ⟨w.heap.size, 2, none⟩ = some (.int .i64 c) ∧ w'.cell? ⟨w.heap.size, 3, none⟩ = some (.int .i64 d)) (go_keep)
              (first | (go_at_call 67; refine (own_el a b c d _ (hE3.below (Below.refl _ _).drew) (List.mem_cons_self ..) hy0 hy1).mono ?_; rintro e w4 ⟨rfl, hE4, y0, y1, y2, y3⟩))
            obtain ⟨t0, t1, t2, tz⟩ := res3 (hE4.fix (w.heap.size + 1, (.cells #[.string ⟨#[]⟩, .int .i64 0, .int .i64 0] 105)) (by simp))
            have hg2 : ∀ y ∈ upto s d (k + 1), badB a b c d y = false := by
              rw [upto_succ, item_eq s d k hlt]
              exact good_snoc HG.out.2 (by simp [badB, HG.out.1, hd])
            have hst2 : st s d (k + 1) = true := by rw [st_succ s d k hlt, HG.out.1, hd]; rfl
            have H2 : Hid ((∀ y ∈ upto s d (k + 1), badB a b c d y = false) ∧ st s d (k + 1) = true) := ⟨hg2, hst2⟩
            clear hg2 hst2
            cases hm2 : ownB a b c d ((s[k + 1]'hlt2).toNat : Int)
            · have HR : Hid (Res a b c d s [] k) := .inl ⟨k + 1, hlt2, H2.out.1, by rw [item_eq s d (k + 1) hlt2]; simp [badB, H2.out.2, hm2], by rw [H2.out.2]; simp⟩
              go_wp2
              exact bodyPost_ret (v := .agg #[.string ⟨#[]⟩, .int .i64 k, .int .i64 3]) (by simp [results, Try.results59, go_sem, t0, t1, t2]) rfl ⟨_, _, _, rfl, HF.out [] k HR.out (by omega), sets3 hE4.bel (by omega) _ _ _⟩
            · have tok1 : True := trivial
              go_wp2_with (at_builtin; have _t := tok1; refine wpList_append_own _ rfl _ _ 22 rfl w.heap.size 5 i0 (.int .u8 0) 1 1 Try.underlying22 hi hz0 hz1 hz2 rfl (by decide) _ _ _ rfl (hE4.row.alloc _) ⟨_, 0, none⟩ 1 1 [.int .u8 ((s[k + 1]'hlt2).toNat : Int)] rfl rfl (cell_one_at _ _ _ _ (by simp)) (by simp [Value.oneCell']) hmx1 (by omega) (by have := hE4.sz; simp at this ⊢; omega) ?_; intro v5 w5 hown2 hgrow2 _; have hE5 := hE4.app hown2 hgrow2; clear tok1 hown2 hgrow2)
              rw [← plainL_wait d (upto s d k) (s[k]'hlt, st s d k) (by simp [waitB, HG.out.1, hd]), ← item_eq s d k hlt, ← upto_succ, ← plainL_byte d (upto s d (k + 1)) (s[k + 1]'hlt2, st s d (k + 1)) (by simp [waitB, H2.out.2]), ← item_eq s d (k + 1) hlt2, ← upto_succ] at hE5
              go_roundw
              case rel => exact ⟨k + 1 + 1, by omega, by go_num, by rw [st_succ s d (k + 1) hlt2, H2.out.2]; rfl, by rw [upto_succ, item_eq s d (k + 1) hlt2]; exact good_snoc H2.out.1 (by simp [badB, H2.out.2, hm2]), hE5⟩
              case measure => simp [intOf]; omega
          · have he2 : ((k : Int) + 1 == (s.size : Int)) = true := by simp; omega
            have esz : s.size = k + 1 := by omega
            have hg2 : ∀ y ∈ upto s d s.size, badB a b c d y = false := by
              rw [esz, upto_succ, item_eq s d k hlt]
              exact good_snoc HG.out.2 (by simp [badB, HG.out.1, hd])
            have HR : Hid (Res a b c d s [] k) := .inr (.inl ⟨hg2, by rw [wtB_upto s d s.size (Nat.le_refl _), esz, st_succ s d k hlt, HG.out.1, hd]; rfl, by omega⟩)
            clear esz hg2
            go_wp2_with fail
            go_quiet (fail)
            go_wp2
            exact bodyPost_ret (v := .agg #[.string ⟨#[]⟩, .int .i64 k, .int .i64 3]) (by simp [results, Try.results59, go_sem, t0, t1, t2]) rfl ⟨_, _, _, rfl, HF.out [] k HR.out (by omega), sets3 (below_drewN hE3.bel _) (by omega) _ _ _⟩
    · obtain rfl : k = s.size := by omega
      have hcv := conv_row hE.row
      obtain ⟨t0, t1, t2, tz⟩ := res3 (hE.fix (w.heap.size + 1, (.cells #[.string ⟨#[]⟩, .int .i64 0, .int .i64 0] 105)) (by simp))
      have HE : Hid (Below w.heap.size w wr) := hE.bel
      have HR : Hid (Res a b c d s (plainL d (upto s d s.size)) (-1)) := .inr (.inr ⟨HG.out.2, by rw [wtB_upto s d s.size (Nat.le_refl _)]; exact HG.out.1, rfl, rfl⟩)
      clear hE
      go_wp2
      exact bodyPost_ret (v := .agg #[.string (strOfNums (plainL d (upto s d s.size))), .int .i64 0, .int .i64 0]) (by simp [results, Try.results59, go_sem, t0, t1, t2]) rfl ⟨_, _, _, rfl, .inr (.inr ⟨hs, hr, _, -1, HR.out, .inr ⟨by omega, rfl, rfl, rfl⟩⟩), sets3 HE.out (by omega) _ _ _⟩
end Go.Proofs.Ytbhionebejnbgaa
