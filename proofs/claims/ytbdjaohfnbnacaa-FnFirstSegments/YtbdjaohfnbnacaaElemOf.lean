/- Contract of impl.elementOf: of a right syntax and a text of at most 20000 bytes it tells what elemR tells, in memory of its own; nothing that was there is written. -/
import Derived.Test.YtbdjaohfnbnacaaReadP
import Derived.Test.YtbdjaohfnbnacaaCutImpl
import Derived.Test.YtbdjaohfnbnacaaShCloneS
import Derived.Test.YtbdjaohfnbnacaaTextG
namespace Go.Proofs.Ytbdjaohfnbnacaa
open Go.ChangeShapes Go.WideShapes Go.ChangeAt Go.RowKit
theorem cutZ_each (y : Int) (pre : List (UInt8 × Bool)) : ∀ l ∈ (cutZ y pre).1 ++ [(cutZ y pre).2], l.length ≤ pre.length := by
  have h : ∀ (t : List (UInt8 × Bool)) (z : List (List Int) × List Int) (m : Nat), (∀ l ∈ z.1 ++ [z.2], l.length ≤ m) → ∀ l ∈ (t.foldl (cutS y) z).1 ++ [(t.foldl (cutS y) z).2], l.length ≤ m + t.length := by
    intro t
    induction t with
    | nil => intro z m hz l hl; exact hz l hl
    | cons x t ih =>
      intro z m hz l hl
      have := ih (cutS y z x) (m + 1) (fun l hl => by
        unfold cutS at hl
        split at hl
        · simp only [List.append_assoc, List.cons_append, List.nil_append, List.mem_append, List.mem_cons, List.not_mem_nil, or_false] at hl
          rcases hl with hl | rfl | rfl
          · exact Nat.le_succ_of_le (hz l (by simp [hl]))
          · exact Nat.le_succ_of_le (hz _ (by simp))
          · simp
        · simp only [List.mem_append, List.mem_cons, List.not_mem_nil, or_false] at hl
          rcases hl with hl | rfl
          · exact Nat.le_succ_of_le (hz l (by simp [hl]))
          · have := hz z.2 (by simp)
            simp
            omega) l hl
      simp only [List.length_cons]
      omega
  have := h pre ([], []) 0 (by simp)
  simpa [cutZ] using this
theorem pieces_size (d y : Int) (s : ByteArray) : ∀ p ∈ piecesS d y s, p.size ≤ s.size := by
  intro p hp
  simp only [piecesS, List.mem_map] at hp
  obtain ⟨l, hl, rfl⟩ := hp
  rw [strOfNums_size]
  have := cutZ_each y (upto s d s.size) l hl
  rwa [upto_length] at this
theorem res_le {a b c d : Int} {s : ByteArray} {P : List Int} {f : Int} (h : Res a b c d s P f) : f ≤ s.size := by
  rcases h with ⟨k, hk, _, _, hf⟩ | ⟨_, _, hf⟩ | ⟨_, _, hf, _⟩
  · rw [hf]
    split <;> omega
  · omega
  · omega
/-- A row of texts of the call's own reads as the list. -/
theorem own_rowS {W : World} {n₀ n : Nat} {v : Value} {ss : List ByteArray} (h : W.ownsRow n₀ 9 1 v n (ss.map Value.string)) (hn : n = ss.length) (hl : ss.length ≤ 1048576) (hz : ∀ t ∈ ss, t.size ≤ 40) : RowS W v ss := by
  subst hn
  refine ⟨?_, by omega, fun i t hi => Nat.le_trans (hz t (List.mem_of_getElem? hi)) (by omega)⟩
  rcases h.2 with ⟨rfl, h0⟩ | ⟨g, cap, cur, rfl, _⟩
  · exact ⟨none, 0, by rw [h0], fun hn => absurd (List.length_eq_zero_iff.1 h0) hn⟩
  · refine ⟨_, _, rfl, fun _ => ⟨g, 0, rfl, fun i t hi => ?_⟩⟩
    have h1 := h.cells (g := g) rfl i (.string t) (by simp [hi])
    have e : (⟨g, 0, none⟩ : Addr).add i = ⟨g, 0 + i, none⟩ := by unfold Addr.add; split <;> simp_all
    rwa [e] at h1
set_option maxHeartbeats 1000000 in
theorem elementBy_any (v : Value) (ss : List ByteArray) (w : World) (h : RowS w v ss) (hp : 0 < ss.length) (hl : ss.length ≤ 1048576) :
    Calls Try.prog 60 #[v] w fun e w' => ∃ v', e = .returned (.agg #[v']) ∧ w'.ownsRow w.heap.size 9 1 v' ss.length (ss.map Value.string) ∧ Below w.heap.size w w' := by
  have hb0 : Below w.heap.size w (w.alloc (.cells #[.slice none 0 0] 74)) := (Below.refl _ _).alloc (Nat.le_refl _) _
  obtain ⟨a, cap, rfl, hc⟩ := (h.below hb0).shape
  obtain ⟨b, o, rfl, hcell⟩ := hc (by intro e; rw [e] at hp; simp at hp)
  have HC : Hid (∀ j, j < ss.length → (w.alloc (.cells #[.slice none 0 0] 74)).cell? ⟨b, o + j, none⟩ = some (.string (ss.getD j ByteArray.empty))) := fun j hj => by
    rw [hcell j ss[j] (List.getElem?_eq_getElem hj)]
    simp [List.getD, List.getElem?_eq_getElem hj]
  clear hcell hc h
  go_enter Try.func60, Try.ntmps60
  go_wp2_with fail
  refine (cloneS_any b o ss.length cap ss _ (Nat.le_refl _) (by omega) HC.out).mono ?_
  rintro e w1 ⟨v', rfl, hrow, _, hb1⟩
  rw [List.take_length] at hrow
  have hs1 : w.heap.size + 1 ≤ w1.heap.size := by have := hb1.size; simpa using this
  have rx : w1.heap[w.heap.size]? = some (.cells #[.slice none 0 0] 74) := (hb1.block w.heap.size (by simp)).trans (World.alloc_heap_new w _)
  have c1 : w1.cell? ⟨w.heap.size, 0, none⟩ = some (.slice none 0 0) := by simp [World.cell?, rx]
  have z1 : w1.frozen? ⟨w.heap.size, 0, none⟩ = false := by simp [World.frozen?, rx]
  obtain ⟨A', L', C', hv'⟩ : ∃ A' L' C', v' = .slice A' L' C' := by
    rcases hrow.2 with ⟨rfl, _⟩ | ⟨g, cap, cur, rfl, _⟩
    · exact ⟨_, _, _, rfl⟩
    · exact ⟨_, _, _, rfl⟩
  subst hv'
  have HR : Hid (w1.ownsRow (w.alloc (.cells #[.slice none 0 0] 74)).heap.size 9 1 (.slice A' L' C') ss.length (ss.map Value.string) ∧ Below w.heap.size w w1) := ⟨hrow, hb0.trans (hb1.mono (by simp))⟩
  clear hrow hb0 hb1 rx HC
  go_wp2
  refine bodyPost_ret (v := .agg #[.slice A' L' C']) (by simp [results, Try.results60, go_sem, c1]) rfl ⟨_, rfl, ?_, HR.out.2.setCell (Nat.le_refl _) _⟩
  have h2 := row_mono HR.out.1 (show w.heap.size ≤ _ by simp)
  exact h2.kept (grownBy_setCell' w1 w.heap.size _) (.inr (row_lt HR.out.1 (show w.heap.size < (w.alloc (.cells #[.slice none 0 0] 74)).heap.size by simp)).symm)
/-- What elementOf hands back. -/
def ElOut (n₀ : Nat) (W : World) (r : Int ⊕ List ByteArray) (v : Value) (f : Int) : Prop :=
  match r with
  | .inl e => f = e ∧ v = .slice none 0 0
  | .inr ps => f = -1 ∧ W.ownsRow n₀ 9 1 v ps.length (ps.map Value.string)
set_option maxRecDepth 20000 in
set_option maxHeartbeats 4000000 in
theorem elementOf_any (a b c d : Int) (s : ByteArray) (w : World) (hr : rightB a b c d = true) (hs : s.size ≤ 20000) :
    Calls Try.prog 54 #[.agg #[.int .i64 a, .int .i64 b, .int .i64 c, .int .i64 d], .string s] w fun e w' => ∃ (v : Value) (f : Int), e = .returned (.tuple #[.agg #[v], .int .i64 f]) ∧ ElOut w.heap.size w' (elemR a b c d s) v f ∧ Below w.heap.size w w' := by
  have hcb : cutB a b c c = true := by simp [cutB]
  go_enter Try.func54, Try.ntmps54
  go_wp2_with fail
  refine (cut_right a b c d s c _ hr hs hcb).mono ?_
  rintro e w1 ⟨vp, rfl, hrow, hb1⟩
  rw [strs_pieces, show (cutZ c (upto s d s.size)).1.length + 1 = (piecesS d c s).length by simp [piecesS]] at hrow
  have hs1 : w.heap.size + 2 ≤ w1.heap.size := by have := hb1.size; simp at this; omega
  have sx1 : w1.heap[w.heap.size]? = some (.cells #[.int .i64 a, .int .i64 b, .int .i64 c, .int .i64 d] 24) := (hb1.block w.heap.size (by simp; omega)).trans ((Below.heap_alloc _ _ _ (by simp)).trans (World.alloc_heap_new w _))
  have rx1 : w1.heap[w.heap.size + 1]? = some (.cells #[.slice none 0 0] 74) := (hb1.block (w.heap.size + 1) (by simp)).trans (heap_new2 w _ _)
  have hb1' : Below w.heap.size w w1 := (((Below.refl _ _).alloc (Nat.le_refl _) _).alloc (by simp) _).trans (hb1.mono (by simp; omega))
  have hpl := pieces_len d c s
  have hpp := pieces_pos d c s
  rcases hrow.2 with ⟨rfl, h0⟩ | ⟨g, cap, cur, rfl, hg, hgb, _⟩
  · omega
  have hcell : ∀ (j : Nat) (p : ByteArray), (piecesS d c s)[j]? = some p → w1.cell? ⟨g, j, none⟩ = some (.string p) := fun j p hj => by
    have h := hrow.cells (g := g) rfl j (.string p) (by simp [hj])
    have e : (⟨g, 0, none⟩ : Addr).add j = ⟨g, j, none⟩ := by unfold Addr.add; split <;> simp_all
    rwa [e] at h
  have H1 : Hid (Below w.heap.size w w1 ∧ w1.heap[w.heap.size]? = some (.cells #[.int .i64 a, .int .i64 b, .int .i64 c, .int .i64 d] 24) ∧ w1.heap[w.heap.size + 1]? = some (.cells #[.slice none 0 0] 74) ∧ (∀ (j : Nat) (p : ByteArray), (piecesS d c s)[j]? = some p → w1.cell? ⟨g, j, none⟩ = some (.string p)) ∧ g < w1.heap.size) := ⟨hb1', sx1, rx1, hcell, (Array.getElem?_eq_some_iff.1 hgb).1⟩
  clear hrow hgb hcell hb1 hb1' sx1 rx1 hg
  have hsz := pieces_size d c s
  obtain ⟨L, hL⟩ : ∃ L, L = piecesS d c s := ⟨_, rfl⟩
  have hEl : elemR a b c d s = if 4 < L.length then .inl 0 else (match elScan a b c d L 0 [] with | .inl e => .inl e | .inr ps => if endsE ps = true then .inl 0 else .inr ps) := by rw [hL]; rfl
  have HE : Hid (elemR a b c d s = (if 4 < L.length then .inl 0 else (match elScan a b c d L 0 [] with | .inl e => .inl e | .inr ps => if endsE ps = true then .inl 0 else .inr ps))) := hEl
  have HZ : Hid (∀ p ∈ L, p.size ≤ s.size) := by rw [hL]; exact hsz
  rw [← hL] at H1 hpl hpp ⊢
  clear hEl hL hsz
  by_cases h4 : 4 < L.length
  · have d4 : (4 : Int) < (L.length : Int) := by omega
    have rx := H1.out.2.2.1
    have c1 : w1.cell? ⟨w.heap.size + 1, 0, none⟩ = some (.slice none 0 0) := by simp [World.cell?, rx]
    have z1 : w1.frozen? ⟨w.heap.size + 1, 0, none⟩ = false := by simp [World.frozen?, rx]
    clear rx
    have HN : Hid (elemR a b c d s = .inl 0) := by
      have := HE.out
      rwa [if_pos h4] at this
    go_wp2
    exact bodyPost_ret (v := .tuple #[.agg #[.slice none 0 0], .int .i64 0]) (by simp [results, Try.results54, go_sem, c1]) rfl ⟨_, _, rfl, by rw [HN.out]; exact ⟨rfl, rfl⟩, (H1.out.1).setCell (show w.heap.size ≤ w.heap.size + 1 by omega) _⟩
  · have d4 : ¬ (4 : Int) < (L.length : Int) := by omega
    obtain ⟨j0, hj, hy0, hy1, hy2⟩ := info_parts info9
    go_wp2_with fail
    go_loopw [7, 8, 24] (fun v x i wr => ∃ (k : Nat) (y : Nat) (acc : List ByteArray), x = .int .i64 (y : Int) ∧ i = .int .i64 (k : Int) ∧ k ≤ L.length ∧ acc.length = k ∧ y ≤ 20001 * k ∧ (∀ t ∈ acc, t.size ≤ 40) ∧ elScan a b c d L 0 [] = elScan a b c d (L.drop k) y acc ∧ wr.ownsRow w1.heap.size 9 1 v acc.length (acc.map Value.string) ∧ Below w1.heap.size w1 wr) (fun _ _ i _ => L.length - (intOf i).toNat)
    case atStart => exact ⟨0, 0, [], rfl, rfl, by omega, rfl, by omega, fun t ht => by simp at ht, rfl, World.ownsRow_nil _ _ _ _, Below.refl _ _⟩
    case round =>
      obtain ⟨k, y, acc, rfl, rfl, hk, hac, hyk, hat, hsc, hrow, hb⟩ := hrel
      have hwr := hb.size
      have hbw : Below w.heap.size w wr := H1.out.1.trans (hb.mono (by omega))
      have sx := (hb.block w.heap.size (by omega)).trans H1.out.2.1
      have rx := (hb.block (w.heap.size + 1) (by omega)).trans H1.out.2.2.1
      by_cases hlt : k < L.length
      · have hlt' : (k : Int) < (L.length : Int) := by omega
        obtain ⟨p, hp⟩ : ∃ p, L[k]? = some p := ⟨_, List.getElem?_eq_getElem hlt⟩
        have hps := HZ.out p (List.mem_of_getElem? hp)
        have hck : wr.cell? ⟨g, k, none⟩ = some (.string p) := (hb.cell (p := ⟨g, k, none⟩) H1.out.2.2.2.2).trans (H1.out.2.2.2.1 k p hp)
        have hdr : L.drop k = p :: L.drop (k + 1) := by
          rw [List.drop_eq_getElem_cons hlt]
          rw [List.getElem?_eq_getElem hlt] at hp
          rw [Option.some.inj hp]
        rw [hdr] at hsc
        have x0 : wr.cell? ⟨w.heap.size, 0, none⟩ = some (.int .i64 a) := by simp [World.cell?, sx]
        have x1 : wr.cell? ⟨w.heap.size, 1, none⟩ = some (.int .i64 b) := by simp [World.cell?, sx]
        have x2 : wr.cell? ⟨w.heap.size, 2, none⟩ = some (.int .i64 c) := by simp [World.cell?, sx]
        have x3 : wr.cell? ⟨w.heap.size, 3, none⟩ = some (.int .i64 d) := by simp [World.cell?, sx]
        have HS : Hid (elScan a b c d L 0 [] = elScan a b c d (p :: L.drop (k + 1)) y acc ∧ wr.ownsRow w1.heap.size 9 1 u7 acc.length (acc.map Value.string) ∧ Below w1.heap.size w1 wr ∧ Below w.heap.size w wr) := ⟨hsc, hrow, hb, hbw⟩
        clear hsc hrow hb hbw sx hdr
        go_wp2_with fail
        refine (without_in a b c d p _ (by omega)).mono ?_
        rintro e w2 ⟨P, f, rfl, hres, hb2⟩
        obtain ⟨hf1, hf2, hf3⟩ := res_fault hres
        have rx2 := (hb2.block (w.heap.size + 1) (by omega)).trans rx
        have c1 : w2.cell? ⟨w.heap.size + 1, 0, none⟩ = some (.slice none 0 0) := by simp [World.cell?, rx2]
        have z1 : w2.frozen? ⟨w.heap.size + 1, 0, none⟩ = false := by simp [World.frozen?, rx2]
        have HB2 : Hid (Below w.heap.size w w2) := HS.out.2.2.2.trans (hb2.mono (by omega))
        have hfl := res_le hres
        have hEl4 : elemR a b c d s = (match elScan a b c d L 0 [] with | .inl e => .inl e | .inr ps => if endsE ps = true then .inl 0 else .inr ps) := by
          have := HE.out
          rwa [if_neg h4] at this
        by_cases hf : 0 ≤ f
        · have HN : Hid (elemR a b c d s = .inl ((y : Int) + f)) := by
            have h1 : elScan a b c d (p :: L.drop (k + 1)) y acc = .inl ((y : Int) + faultF a b c d p) := by simp only [elScan]; rw [if_pos (by omega)]
            show elemR a b c d s = .inl ((y : Int) + f)
            rw [hEl4, HS.out.1, h1, hf1]
          clear hEl4 hres hf1 hf2 hb2 rx rx2
          go_wp2
          exact bodyPost_ret (v := .tuple #[.agg #[.slice none 0 0], .int .i64 ((y : Int) + f)]) (by simp [results, Try.results54, go_sem, c1]) rfl ⟨_, _, rfl, by rw [HN.out]; exact ⟨rfl, rfl⟩, (HB2.out).setCell (show w.heap.size ≤ w.heap.size + 1 by omega) _⟩
        · have hpl2 : strOfNums P = plainS d p := hf2 (by omega)
          rw [hpl2]
          have HF : Hid (¬ 0 ≤ faultF a b c d p) := by rw [← hf1]; exact hf
          have hrow2 := HS.out.2.1.kept (show wr.grownBy w2 none from ⟨hb2.os, hb2.tape, hb2.output, hb2.size, fun k hk _ => hb2.block k hk⟩) (by cases u7.ownBlock with | none => exact .inl rfl | some k => exact .inr (by simp))
          have hb2' : Below w1.heap.size w1 w2 := HS.out.2.2.1.trans (hb2.mono hwr)
          have hw2 := hb2'.size
          clear hres hf1 hf2 hf3 hb2 hpl2
          go_wp2_with fail
          refine (isPart_any (plainS d p) _).mono ?_
          rintro e w3 ⟨rfl, rfl⟩
          cases hP : partB (plainS d p)
          · have HN : Hid (elemR a b c d s = .inl (y : Int)) := by
              have h1 : elScan a b c d (p :: L.drop (k + 1)) y acc = .inl (y : Int) := by simp only [elScan]; rw [if_neg (by have := HF.out; omega), if_neg (by rw [hP]; simp)]
              show elemR a b c d s = .inl (y : Int)
              rw [hEl4, HS.out.1, h1]
            clear hEl4 rx rx2 hrow2 hb2'
            go_wp2
            exact bodyPost_ret (v := .tuple #[.agg #[.slice none 0 0], .int .i64 ((y : Int))]) (by simp [results, Try.results54, go_sem, c1]) rfl ⟨_, _, rfl, by rw [HN.out]; exact ⟨rfl, rfl⟩, (HB2.out).setCell (show w.heap.size ≤ w.heap.size + 1 by omega) _⟩
          · have hps2 := partB_size hP
            have hmx : acc.length + 1 ≤ maxLen := by unfold maxLen; omega
            have HK : Hid (elScan a b c d L 0 [] = elScan a b c d (L.drop (k + 1)) ((y : Int) + (p.size : Int) + 1) (acc ++ [plainS d p]) ∧ (∀ t ∈ acc ++ [plainS d p], t.size ≤ 40)) := by
              refine ⟨?_, fun t ht => ?_⟩
              · rw [HS.out.1]
                simp only [elScan]
                rw [if_neg (by have := HF.out; omega), if_pos hP]
              · rcases List.mem_append.1 ht with h | h
                · exact hat t h
                · simp only [List.mem_cons, List.not_mem_nil, or_false] at h
                  rw [h]
                  exact hps2
            have tok1 : True := trivial
            clear hEl4 rx rx2
            go_wp2_with (at_builtin; have _t := tok1; refine wpList_append_own _ rfl _ _ 72 rfl w1.heap.size 9 j0 (.string ⟨#[]⟩) 1 16 Try.underlying72 hj hy0 hy1 hy2 rfl (by decide) _ _ _ rfl (hrow2.alloc _) ⟨_, 0, none⟩ 1 1 [.string (plainS d p)] rfl rfl (cell_one_at _ _ _ _ (by simp)) (by simp [Value.oneCell']) hmx (by omega) (by simp; omega) ?_; intro u' w4 hown' hgrow _; have hb4 : Below w1.heap.size w1 w4 := (hb2'.alloc hw2 _).grown hgrow (by simp; omega) (row_base hrow2); have hr4 : w4.ownsRow w1.heap.size 9 1 u' (acc ++ [plainS d p]).length ((acc ++ [plainS d p]).map Value.string) := (by simpa using hown'); clear tok1 hown' hgrow)
            go_roundw
            case rel => exact ⟨k + 1, y + p.size + 1, acc ++ [plainS d p], by go_num, by go_num, by omega, by simp; omega, by omega, HK.out.2, by rw [HK.out.1]; congr 1, hr4, hb4⟩
            case measure => simp [intOf]; omega
      · obtain rfl : k = L.length := by omega
        have hlt' : ¬ (L.length : Int) < (L.length : Int) := by omega
        rw [List.drop_length] at hsc
        have hEl4 : elemR a b c d s = if endsE acc = true then .inl 0 else .inr acc := by
          have := HE.out
          rw [if_neg h4, hsc] at this
          exact this
        have hRow := own_rowS hrow rfl (by omega) hat
        have c1 : wr.cell? ⟨w.heap.size + 1, 0, none⟩ = some (.slice none 0 0) := by simp [World.cell?, rx]
        have z1 : wr.frozen? ⟨w.heap.size + 1, 0, none⟩ = false := by simp [World.frozen?, rx]
        have HR : Hid (RowS wr u7 acc ∧ Below w.heap.size w wr) := ⟨hRow, hbw⟩
        clear hsc hrow hb hbw sx hRow hlt
        go_wp2_with fail
        refine (endsEmpty_any _ acc _ HR.out.1 (by omega)).mono ?_
        rintro e w2 ⟨rfl, rfl⟩
        cases hend : endsE acc
        · have HN : Hid (elemR a b c d s = .inr acc) := by
            show elemR a b c d s = .inr acc
            rw [hEl4, hend]
            rfl
          clear hEl4
          go_wp2_with fail
          refine (elementBy_any _ acc _ HR.out.1 (by omega) (by omega)).mono ?_
          rintro e w3 ⟨v3, rfl, hrow3, hb3⟩
          have hw3 := hb3.size
          have rx3 := (hb3.block (w.heap.size + 1) (by omega)).trans rx
          have c3 : w3.cell? ⟨w.heap.size + 1, 0, none⟩ = some (.slice none 0 0) := by simp [World.cell?, rx3]
          have z3 : w3.frozen? ⟨w.heap.size + 1, 0, none⟩ = false := by simp [World.frozen?, rx3]
          obtain ⟨A', L', C', hv'⟩ : ∃ A' L' C', v3 = .slice A' L' C' := by
            rcases hrow3.2 with ⟨rfl, _⟩ | ⟨g, cap, cur, rfl, _⟩
            · exact ⟨_, _, _, rfl⟩
            · exact ⟨_, _, _, rfl⟩
          subst hv'
          have HR3 : Hid (w3.ownsRow w2.heap.size 9 1 (.slice A' L' C') acc.length (acc.map Value.string) ∧ Below w.heap.size w w3) := ⟨hrow3, HR.out.2.trans (hb3.mono HR.out.2.size)⟩
          clear hrow3 hb3 rx rx3 c1 z1
          go_wp2
          refine bodyPost_ret (v := .tuple #[.agg #[.slice A' L' C'], .int .i64 (-1)]) (by simp [results, Try.results54, go_sem, c3]) rfl ⟨_, _, rfl, ?_, HR3.out.2.setCell (show w.heap.size ≤ w.heap.size + 1 by omega) _⟩
          rw [HN.out]
          refine ⟨rfl, (row_mono HR3.out.1 (show w.heap.size ≤ w2.heap.size by omega)).kept (grownBy_setCell' w3 (w.heap.size + 1) _) (.inr (row_lt HR3.out.1 (show w.heap.size + 1 < w2.heap.size by omega)).symm)⟩
        · have HN : Hid (elemR a b c d s = .inl 0) := by
            show elemR a b c d s = .inl 0
            rw [hEl4, hend]
            rfl
          clear hEl4 rx
          go_wp2
          exact bodyPost_ret (v := .tuple #[.agg #[.slice none 0 0], .int .i64 0]) (by simp [results, Try.results54, go_sem, c1]) rfl ⟨_, _, rfl, by rw [HN.out]; exact ⟨rfl, rfl⟩, HR.out.2.setCell (show w.heap.size ≤ w.heap.size + 1 by omega) _⟩
end Go.Proofs.Ytbdjaohfnbnacaa
