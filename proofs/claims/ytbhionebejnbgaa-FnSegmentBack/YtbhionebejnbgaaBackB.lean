/- Plain lemmas: the text of what was read is what stood there. -/
import Derived.Test.YtbhionebejnbgaaBackA
namespace Go.Proofs.Ytbhionebejnbgaa
open Go.RowKit
/-- The bytes without their releases. -/
def plU (d : Int) (toks : List (UInt8 × Bool)) : List UInt8 := toks.flatMap fun x => if waitB d x = true then [] else [x.1]
theorem plU_plainL (d : Int) (toks : List (UInt8 × Bool)) : plainL d toks = (plU d toks).map fun x => (x.toNat : Int) := by
  induction toks with
  | nil => rfl
  | cons t ts ih =>
    simp only [plainL, plU, List.flatMap_cons, List.map_append] at ih ⊢
    rw [ih]
    congr 1
    split <;> simp
theorem wtB_cons (d : Int) (u : UInt8 × Bool) (ts : List (UInt8 × Bool)) : wtB d (u :: ts) = if ts = [] then waitB d u else wtB d ts := by
  cases ts with
  | nil => simp [wtB]
  | cons t ts => simp [wtB, List.getLast?_cons_cons]
theorem unesc {a b c d : Int} : ∀ (n : Nat) (l : List UInt8), l.length ≤ n → (∀ z ∈ mk d false l, badB a b c d z = false) → wtB d (mk d false l) = false → escU a b c d (plU d (mk d false l)) = l := by
  intro n
  induction n with
  | zero =>
    intro l hl _ _
    obtain rfl := List.length_eq_zero_iff.1 (Nat.le_zero.1 hl)
    rfl
  | succ n ih =>
    intro l hl hg hw
    cases l with
    | nil => rfl
    | cons x t =>
      simp only [List.length_cons] at hl
      by_cases hx : (x.toNat : Int) = d
      · have hx' : ((x.toNat : Int) == d) = true := by rw [beq_iff_eq]; exact hx
        have hmx : mb d = x := by
          unfold mb
          rw [← hx]
          simp
        cases t with
        | nil =>
          simp [mk, wtB, waitB, hx] at hw
        | cons y r =>
          have e : mk d false (x :: y :: r) = (x, false) :: (y, true) :: mk d false r := by simp [mk, hx']
          rw [e] at hg hw ⊢
          have hy := hg (y, true) (by simp)
          have hown : ownB a b c d (y.toNat : Int) = true := by
            unfold badB at hy
            simpa using hy
          have hw2 : wtB d (mk d false r) = false := by
            rw [wtB_cons, if_neg (by simp), wtB_cons] at hw
            by_cases hn : mk d false r = []
            · rw [hn]; rfl
            · rwa [if_neg hn] at hw
          have := ih r (by simp at hl; omega) (fun z hz => hg z (by simp [hz])) hw2
          have ep : plU d ((x, false) :: (y, true) :: mk d false r) = y :: plU d (mk d false r) := by
            simp [plU, waitB, hx]
          rw [ep, escU_cons, if_pos hown, this, hmx]
          rfl
      · have hx' : ((x.toNat : Int) == d) = false := by rw [beq_eq_false_iff_ne]; exact hx
        have e : mk d false (x :: t) = (x, false) :: mk d false t := by simp [mk, hx']
        rw [e] at hg hw ⊢
        have hy := hg (x, false) (by simp)
        have hown : ¬ ownB a b c d (x.toNat : Int) = true := by
          unfold badB at hy
          simp [hx'] at hy
          simp [hy]
        have hw2 : wtB d (mk d false t) = false := by
          rw [wtB_cons] at hw
          by_cases hn : mk d false t = []
          · rw [hn]; rfl
          · rwa [if_neg hn] at hw
        have := ih t (by omega) (fun z hz => hg z (by simp [hz])) hw2
        have ep : plU d ((x, false) :: mk d false t) = x :: plU d (mk d false t) := by
          simp [plU, waitB, hx]
        rw [ep, escU_cons, if_neg hown, this]
        rfl
theorem part_text {a b c d : Int} {p : ByteArray} (h : faultF a b c d p < 0) : escU a b c d (plainS d p).data.toList = p.data.toList := by
  obtain ⟨h1, h2⟩ := fault_neg h
  rw [upto_all] at h1 h2
  unfold plainS
  rw [upto_all, plU_plainL, strOfNums_bytesOf]
  refine unesc _ _ (Nat.le_refl _) (fun z hz => ?_) h2
  rw [List.findIdx?_eq_none_iff] at h1
  have := h1 z hz
  simpa using this
/-- Pieces with the mark between. -/
def jI (y : Int) : List (List Int) → List Int
  | [] => []
  | p :: r => p ++ r.flatMap fun q => y :: q
theorem jI_snoc (y : Int) (l : List (List Int)) (q : List Int) : jI y (l ++ [q]) = if l = [] then q else jI y l ++ y :: q := by
  cases l with
  | nil => simp [jI]
  | cons p r => simp [jI]
theorem jI_step (y : Int) (z : List (List Int) × List Int) (x : UInt8 × Bool) : jI y (zz (cutS y z x)) = jI y (zz z) ++ [(x.1.toNat : Int)] := by
  unfold cutS
  split
  · rename_i h
    simp only [Bool.and_eq_true, beq_iff_eq] at h
    unfold zz
    simp only
    rw [jI_snoc y (z.1 ++ [z.2]) [], if_neg (by simp), h.2]
  · unfold zz
    simp only
    rw [jI_snoc, jI_snoc]
    split <;> simp
theorem jI_fold (y : Int) : ∀ (pre : List (UInt8 × Bool)) (z : List (List Int) × List Int), jI y (zz (pre.foldl (cutS y) z)) = jI y (zz z) ++ bytesL pre := by
  intro pre
  induction pre with
  | nil => intro z; simp [bytesL]
  | cons x t ih =>
    intro z
    rw [List.foldl_cons, ih, jI_step]
    simp [bytesL]
theorem join_pieces {d y : Int} (hy : 33 ≤ y ∧ y ≤ 126) {s p : ByteArray} {r : List ByteArray} (h : piecesS d y s = p :: r) : s.data.toList = p.data.toList ++ r.flatMap fun q => mB y :: q.data.toList := by
  have hj := jI_fold y (upto s d s.size) ([], [])
  rw [show (upto s d s.size).foldl (cutS y) ([], []) = cutZ y (upto s d s.size) from rfl] at hj
  have hb : bytesL (upto s d s.size) = s.data.toList.map fun x => (x.toNat : Int) := by
    rw [upto_all]
    exact mk_fst d _ false
  rw [hb] at hj
  have h1 : (zz (cutZ y (upto s d s.size))).map strOfNums = p :: r := h
  cases hz : zz (cutZ y (upto s d s.size)) with
  | nil => rw [hz] at h1; cases h1
  | cons l ls =>
    rw [hz] at h1 hj
    simp only [List.map_cons, List.cons.injEq] at h1
    obtain ⟨rfl, rfl⟩ := h1
    have e : (s.data.toList.map fun x => (x.toNat : Int)) = l ++ ls.flatMap fun q => y :: q := by
      rw [← show jI y (zz (([], []) : List (List Int) × List Int)) ++ (s.data.toList.map fun x => (x.toNat : Int)) = s.data.toList.map fun x => (x.toNat : Int) by simp [zz, jI], ← hj]
      rfl
    have e2 : s = strOfNums (l ++ ls.flatMap fun q => y :: q) := by rw [← e, strOfNums_self]
    conv => lhs; rw [e2]
    rw [strOfNums_data, strOfNums_data, List.map_append, List.map_flatMap]
    congr 1
    rw [List.flatMap_map]
    refine congrArg (fun f => ls.flatMap f) (funext fun q => ?_)
    rw [strOfNums_data]
    have hm : UInt8.ofNat y.toNat = mB y := by
      unfold mB
      rw [show y % 256 = y by omega]
    simp only [List.map_cons, hm]
theorem flat_congr {α β : Type} {f g : α → List β} : ∀ {l : List α}, (∀ x ∈ l, f x = g x) → l.flatMap f = l.flatMap g := by
  intro l
  induction l with
  | nil => intro _; rfl
  | cons x t ih => intro h; rw [List.flatMap_cons, List.flatMap_cons, h x (by simp), ih (fun y hy => h y (by simp [hy]))]
theorem elScan_inv {a b c d : Int} : ∀ (L : List ByteArray) (y : Int) (acc ps : List ByteArray), elScan a b c d L y acc = .inr ps → ps = acc ++ L.map (plainS d) ∧ (∀ p ∈ L, faultF a b c d p < 0) ∧ ∀ p ∈ L, partB (plainS d p) = true := by
  intro L
  induction L with
  | nil =>
    intro y acc ps h
    simp only [elScan, Sum.inr.injEq] at h
    exact ⟨by simp [h], fun p hp => by simp at hp, fun p hp => by simp at hp⟩
  | cons p t ih =>
    intro y acc ps h
    simp only [elScan] at h
    split at h
    · cases h
    · rename_i h1
      split at h
      · rename_i h2
        obtain ⟨e1, e2, e3⟩ := ih _ _ _ h
        refine ⟨by rw [e1]; simp, fun q hq => ?_, fun q hq => ?_⟩
        · rcases List.mem_cons.1 hq with rfl | hq
          · omega
          · exact e2 q hq
        · rcases List.mem_cons.1 hq with rfl | hq
          · exact h2
          · exact e3 q hq
      · cases h
theorem elem_text {a b c d : Int} (M : Mks a b c d) {s : ByteArray} {ps : List ByteArray} (h : elemR a b c d s = .inr ps) : s.data.toList = eU a b c d ps ∧ elB ps = true := by
  have hpos := pieces_pos d c s
  unfold elemR at h
  split at h
  · cases h
  · rename_i h4
    cases he : elScan a b c d (piecesS d c s) 0 [] with
    | inl e => rw [he] at h; cases h
    | inr qs =>
      rw [he] at h
      simp only at h
      split at h
      · cases h
      · rename_i hen
        simp only [Sum.inr.injEq] at h
        subst h
        obtain ⟨e1, e2, e3⟩ := elScan_inv _ _ _ _ he
        simp only [List.nil_append] at e1
        cases hP : piecesS d c s with
        | nil => rw [hP] at hpos; simp at hpos
        | cons p r =>
          rw [hP] at e1 e2 e3 h4
          have hj := join_pieces M.hc hP
          refine ⟨?_, ?_⟩
          · rw [hj, e1]
            simp only [List.map_cons, eU, tU]
            rw [part_text (e2 p (by simp)), List.flatMap_map]
            congr 1
            have : ∀ q ∈ r, (mB c :: q.data.toList) = (mB c :: escU a b c d (plainS d q).data.toList) := fun q hq => by rw [part_text (e2 q (by simp [hq]))]
            exact flat_congr this
          · unfold elB
            simp only [Bool.and_eq_true, decide_eq_true_eq, Bool.not_eq_true', List.all_eq_true]
            refine ⟨by rw [e1]; simp, by rw [e1, List.length_map]; omega, by simpa using hen, fun t ht => ?_⟩
            rw [e1] at ht
            obtain ⟨q, hq, rfl⟩ := List.mem_map.1 ht
            exact e3 q hq
theorem sgScan_inv {a b c d : Int} (M : Mks a b c d) : ∀ (L : List ByteArray) (i : Nat) (y : Int) (acc es : List (List ByteArray)), sgScan a b c d L i y acc = .inr es → acc.length = i → i ≤ 10 → ∃ es', es = acc ++ es' ∧ acc.length + es'.length ≤ 10 ∧ (L.flatMap fun q => mB b :: q.data.toList) = gU a b c d es' ∧ ∀ ss ∈ es', elB ss = true := by
  intro L
  induction L with
  | nil =>
    intro i y acc es h hi h10
    simp only [sgScan, Sum.inr.injEq] at h
    exact ⟨[], by simp [h], by simp; omega, by simp [gU], fun ss hs => by simp at hs⟩
  | cons p t ih =>
    intro i y acc es h hi h10
    simp only [sgScan] at h
    split at h
    · cases h
    · rename_i h1
      cases he : elemR a b c d p with
      | inl x => rw [he] at h; cases h
      | inr ps =>
        rw [he] at h
        obtain ⟨es', e1, e2, e3, e4⟩ := ih _ _ _ _ h (by simp [hi]) (by omega)
        obtain ⟨f1, f2⟩ := elem_text M he
        refine ⟨ps :: es', by rw [e1]; simp, by simp at e2 ⊢; omega, ?_, fun ss hs => ?_⟩
        · rw [gU_cons, List.flatMap_cons, e3, f1]
          simp
        · rcases List.mem_cons.1 hs with rfl | hs
          · exact f2
          · exact e4 ss hs
/-- The text of what was read of it, without the mark at the end. -/
theorem seg_text {a b c d : Int} (hr : rightB a b c d = true) {s : ByteArray} {g : Seg} (h : segR a b c d s = .inr g) : s.data.toList = g.1.data.toList ++ gU a b c d g.2 ∧ rightG g.1 g.2 = true := by
  have M := mks hr
  have hpos := pieces_pos d b s
  unfold segR at h
  simp only at h
  cases hP : piecesS d b s with
  | nil => rw [hP] at hpos; simp at hpos
  | cons tag r =>
    rw [hP] at h
    simp only [List.getElem?_cons_zero, Option.getD_some, List.drop_succ_cons, List.drop_zero] at h
    split at h
    · rename_i ht
      cases he : sgScan a b c d r 0 (tag.size + 1) [] with
      | inl x => rw [he] at h; cases h
      | inr es =>
        rw [he] at h
        simp only at h
        split at h
        · cases h
        · rename_i hb
          simp only [Sum.inr.injEq] at h
          subst h
          obtain ⟨es', e1, e2, e3, e4⟩ := sgScan_inv M _ _ _ _ _ he rfl (by omega)
          simp only [List.nil_append] at e1
          subst e1
          refine ⟨by rw [join_pieces M.hb hP, e3], ?_⟩
          unfold rightG
          simp only [Bool.and_eq_true, decide_eq_true_eq, Bool.not_eq_true', List.all_eq_true]
          exact ⟨ht, by simpa using e2, by simpa using hb, e4⟩
    · cases h
theorem take_inv {d y : Int} {s q : ByteArray} (h : takeR d y s = some q) : ∃ k, ∃ hk : k < s.size, q = s.extract 0 k ∧ ((s[k]'hk).toNat : Int) = y := by
  unfold takeR at h
  cases hf : (upto s d s.size).findIdx? (isBy y) with
  | none => rw [hf] at h; cases h
  | some k =>
    rw [hf] at h
    simp only [Option.map_some, Option.some.injEq] at h
    rw [List.findIdx?_eq_some_iff_getElem] at hf
    obtain ⟨h1, h2, _⟩ := hf
    have hk : k < s.size := by rwa [upto_length] at h1
    have e := upto_get s d s.size k hk
    rw [List.getElem?_eq_getElem h1] at e
    rw [Option.some.inj e, item_eq s d k hk] at h2
    refine ⟨k, hk, by rw [← h, bytesL_upto s d k (by omega)], ?_⟩
    unfold isBy at h2
    simp only [Bool.and_eq_true, beq_iff_eq] at h2
    exact h2.2
/-- What was read is told as just the bytes that were used. -/
theorem rd_text {a b c d : Int} (hr : rightB a b c d = true) {s : ByteArray} (h : (rdI a b c d s).1 = 0) : ∃ (n : Nat) (g : Seg), (rdI a b c d s).2.2.1 = (n : Int) ∧ (rdI a b c d s).2.2.2 = some g ∧ 0 < n ∧ n ≤ s.size ∧ rightG g.1 g.2 = true ∧ textG a b c d g.1 g.2 = s.extract 0 n := by
  unfold rdI at h ⊢
  split at h
  · cases h
  · rename_i h0
    rw [if_neg h0]
    cases hT : takeR d a s with
    | none => rw [hT] at h; cases h
    | some q =>
      rw [hT] at h
      simp only at h ⊢
      cases hG : segR a b c d q with
      | inl e => rw [hG] at h; cases h
      | inr g =>
        obtain ⟨k, hk, hq, hy⟩ := take_inv hT
        obtain ⟨f1, f2⟩ := seg_text hr hG
        have hqs : q.size = k := by rw [hq, ByteArray.size_extract]; omega
        refine ⟨k + 1, g, by simp [hqs], rfl, by omega, by omega, f2, ?_⟩
        apply ByteArray.ext
        apply Array.toList_inj.1
        rw [text_bytes hr f2, ← f1, hq, Lib.extract_data, Lib.extract_data]
        have hl : k < s.data.toList.length := by simpa using hk
        simp only [List.drop_zero, Nat.sub_zero]
        rw [List.take_succ_eq_append_getElem hl]
        congr 1
        have e : s.data.toList[k] = s[k]'hk := rfl
        rw [e]
        have hb := (mks hr).ha
        congr 1
        have h3 : ((mB a).toNat : Int) = ((s[k]'hk).toNat : Int) := by rw [mB_mark hb, hy]
        have h4 : (mB a).toNat = (s[k]'hk).toNat := by omega
        exact UInt8.toNat_inj.1 h4
end Go.Proofs.Ytbhionebejnbgaa
