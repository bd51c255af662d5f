/- What turn, hold and with do for a record that may follow a right log. -/
import Derived.Test.YtgojonhjhdbpkaaBook7
import Derived.Test.YtgojonhjhdbpkaaBook9
namespace Go.Proofs.Ytgojonhjhdbpkaa.B
set_option maxRecDepth 100000
open Go.ChangeShapes Go.WideShapes Go.ChangeAt Go.RowKit

theorem list12 (ps : List Int) (h : ps.length = 12) : ∃ a0 a1 a2 a3 a4 a5 a6 a7 a8 a9 a10 a11, ps = [a0, a1, a2, a3, a4, a5, a6, a7, a8, a9, a10, a11] := by
  match ps, h with
  | [a0, a1, a2, a3, a4, a5, a6, a7, a8, a9, a10, a11], _ => exact ⟨_, _, _, _, _, _, _, _, _, _, _, _, rfl⟩
theorem pg_ok {a b c d : Int} (ha : 0 ≤ a ∧ a ≤ 99) (hb : 0 ≤ b ∧ b ≤ 99) (hc : 0 ≤ c ∧ c ≤ 99) (hd : 0 ≤ d ∧ d ≤ 60) : pgErr ⟨a, b, c, d⟩ = 0 := by
  simp [pgErr, out]; omega
theorem set_ok {cell val n : Int} (ha : 0 ≤ cell ∧ cell ≤ 2) (hb : 0 ≤ val ∧ val ≤ 99) (hc : 1 ≤ n ∧ n ≤ 60) : setBad cell val n = false := by
  simp [setBad, out]; omega
set_option maxHeartbeats 1000000 in
theorem turn_ok {l : List Rc} {r : Rc} (hR : Right l) (he : recErr (l.length + 1 : Nat) r = 0) {w : World} {pb mt mh : Nat} {sz : Int} (hB : Blk w pb (bookCells (pagesR l) mt mh sz) 71) :
    Calls Try.prog 83 #[.pointer (some ⟨pb, 0, none⟩), .int .i64 ((l.length : Int) + 1), r.val] w fun e w' => e = .returned (.tuple #[]) ∧ Gr (some pb) w w' ∧ Blk w' pb (bookCells (pagesR (l ++ [r])) mt mh sz) 71 := by
  rw [pagesR_snoc]
  cases ht : turns r
  · refine (turn_not _ pb w ht).mono ?_
    rintro e w' ⟨rfl, hw⟩
    exact ⟨rfl, Gr.of_ext hw, hB.ext hw⟩
  · rw [if_pos rfl]
    have hf := recErr_fits he ht
    have hv := recErr_vals he ht
    have hn := recErr_num he
    have hin := right_pages l hR
    have hl := pagesR_len l
    generalize pagesR l = ps at *
    obtain ⟨a0, a1, a2, a3, a4, a5, a6, a7, a8, a9, a10, a11, rfl⟩ := list12 ps hl
    obtain ⟨kind, txn, prev, page, cell, old, new, next⟩ := r
    dsimp only at hf hv
    have hs : setBad cell new ((l.length : Int) + 1) = false := set_ok (by omega) (by omega) (by omega)
    have i0 : 0 ≤ a0 ∧ a0 ≤ 99 := (hin 0).1 (by decide)
    have i1 : 0 ≤ a1 ∧ a1 ≤ 99 := (hin 1).1 (by decide)
    have i2 : 0 ≤ a2 ∧ a2 ≤ 99 := (hin 2).1 (by decide)
    have i3 : 0 ≤ a3 ∧ a3 ≤ 60 := (hin 3).2 (by decide)
    have i4 : 0 ≤ a4 ∧ a4 ≤ 99 := (hin 4).1 (by decide)
    have i5 : 0 ≤ a5 ∧ a5 ≤ 99 := (hin 5).1 (by decide)
    have i6 : 0 ≤ a6 ∧ a6 ≤ 99 := (hin 6).1 (by decide)
    have i7 : 0 ≤ a7 ∧ a7 ≤ 60 := (hin 7).2 (by decide)
    have i8 : 0 ≤ a8 ∧ a8 ≤ 99 := (hin 8).1 (by decide)
    have i9 : 0 ≤ a9 ∧ a9 ≤ 99 := (hin 9).1 (by decide)
    have i10 : 0 ≤ a10 ∧ a10 ≤ 99 := (hin 10).1 (by decide)
    have i11 : 0 ≤ a11 ∧ a11 ≤ 60 := (hin 11).2 (by decide)
    have hp : page = 0 ∨ page = 1 ∨ page = 2 := by omega
    have hc : cell = 0 ∨ cell = 1 ∨ cell = 2 := by omega
    rcases hp with rfl | rfl | rfl
    · refine (turn_0 a0 a1 a2 a3 a4 a5 a6 a7 a8 a9 a10 a11 mt mh pb sz ((l.length : Int) + 1) kind txn prev cell old new next w hB ht).mono ?_
      rintro e w' ⟨rfl, g, B⟩
      refine ⟨rfl, g, ?_⟩
      rw [setOf_good (pg_ok i0 i1 i2 i3) hs] at B
      rcases hc with rfl | rfl | rfl <;> exact B
    · refine (turn_1 a0 a1 a2 a3 a4 a5 a6 a7 a8 a9 a10 a11 mt mh pb sz ((l.length : Int) + 1) kind txn prev cell old new next w hB ht).mono ?_
      rintro e w' ⟨rfl, g, B⟩
      refine ⟨rfl, g, ?_⟩
      rw [setOf_good (pg_ok i4 i5 i6 i7) hs] at B
      rcases hc with rfl | rfl | rfl <;> exact B
    · refine (turn_2 a0 a1 a2 a3 a4 a5 a6 a7 a8 a9 a10 a11 mt mh pb sz ((l.length : Int) + 1) kind txn prev cell old new next w hB ht).mono ?_
      rintro e w' ⟨rfl, g, B⟩
      refine ⟨rfl, g, ?_⟩
      rw [setOf_good (pg_ok i8 i9 i10 i11) hs] at B
      rcases hc with rfl | rfl | rfl <;> exact B
theorem own_notmap {w : World} {base mh : Nat} {e : TypeId} {size n : Nat} {v : Value} {xs : List Value} {K : Type} {f : K → Value} {al : List (K × Value)} (h : w.ownsRow base e size v n xs) (hm : MapAt f w mh al) : v.ownBlock ≠ some mh := by
  obtain ⟨es, c, hh, _⟩ := hm
  rcases h.2 with ⟨rfl, _⟩ | ⟨g, cap, cur, rfl, _, hg, _⟩
  · simp [Value.ownBlock]
  · intro k
    simp only [Value.ownBlock, Option.some.injEq] at k
    rw [k, hh] at hg
    cases hg
theorem blk_notmap {w : World} {pb mh : Nat} {c : Array Value} {t : TypeId} {K : Type} {f : K → Value} {al : List (K × Value)} (h : Blk w pb c t) (hm : MapAt f w mh al) : pb ≠ mh := by
  obtain ⟨es, cl, hh, _⟩ := hm
  intro k
  unfold Blk at h
  rw [k, hh] at h
  cases h
theorem hold_ok {l : List Rc} {r : Rc} {w : World} {base pb mt mh : Nat} {pc : Array Value} {al : List (Int × Value)} {ho : List HE} {s last : Int} {sv : Value} (hR : Right l) (he : recErr (l.length + 1 : Nat) r = 0) (hf : followsR l r = true)
    (hB : Blk w pb pc 71) (h12 : pc[12]? = some (.map (some mt))) (h13 : pc[13]? = some (.map (some mh))) (hT : MapAt keyI w mt al) (hM : MapAt keyP w mh (ho.map hoEnt)) (hlk : lookI al r.txn (txVal 0 0 (.slice none 0 0)) = txVal s last sv)
    (hown : w.ownsRow base 39 8 sv (standB l r.txn).length (flat (standB l r.txn))) (hH : Holds ho (heldBy l)) :
    Calls Try.prog 84 #[.pointer (some ⟨pb, 0, none⟩), r.val] w fun e w' => e = .returned (.tuple #[]) ∧ Gr (some mh) w w' ∧ ∃ ho', MapAt keyP w' mh (ho'.map hoEnt) ∧ Holds ho' (heldBy (l ++ [r])) := by
  have hne := blk_notmap hB hM
  have hb := hH.bound (held_bound hR) (r.page, r.cell)
  rcases recErr_kind he with k | k | k | k
  · have hh := holds_write hR he hf k hH
    generalize heldBy (l ++ [r]) = c' at *
    obtain ⟨kind, txn, prev, page, cell, old, new, next⟩ := r
    dsimp only at k hb hh
    subst k
    refine (hold_1 pc mh pb ho txn prev page cell old new next w hB h13 hM hne hb.1 (by omega)).mono ?_
    rintro e w' ⟨rfl, g, m⟩
    exact ⟨rfl, g, _, m, hh⟩
  · refine (hold_2 pb r w k).mono ?_
    rintro e w' ⟨rfl, hw⟩
    exact ⟨rfl, Gr.of_ext hw, ho, hM.ext hw, holds_commit he hf k hH⟩
  · have hh := holds_back hR he hf k hH
    generalize heldBy (l ++ [r]) = c' at *
    obtain ⟨kind, txn, prev, page, cell, old, new, next⟩ := r
    dsimp only at k hb hh
    subst k
    refine (hold_3 pc mh pb ho txn prev page cell old new next w hB h13 hM hne hh.2 (by omega)).mono ?_
    rintro e w' ⟨rfl, g, m⟩
    exact ⟨rfl, g, _, m, hh.1⟩
  · have hh := holds_end he hf k hH
    have hp := gos_pos hR (t := r.txn) hH
    have hs := stand_len hR r.txn
    generalize heldBy (l ++ [r]) = c' at *
    obtain ⟨kind, txn, prev, page, cell, old, new, next⟩ := r
    dsimp only at k hb hh hp hlk hown hs
    subst k
    refine (hold_4 pc mt mh pb base ho al s last sv (standB l txn) txn prev page cell old new next w hB h12 h13 hT hM hne hlk hown (own_notmap hown hM) hs hp).mono ?_
    rintro e w' ⟨rfl, g, m⟩
    exact ⟨rfl, g, _, m, hh⟩
theorem with_ok {l : List Rc} {r : Rc} {w : World} {base : Nat} (s last n : Int) {sv : Value} (hR : Right l) (he : recErr (l.length + 1 : Nat) r = 0) (hf : followsR l r = true) (hown : w.ownsRow base 39 8 sv (standB l r.txn).length (flat (standB l r.txn))) (hb : base ≤ w.heap.size) :
    Calls Try.prog 85 #[txVal s last sv, .int .i64 n, r.val] w fun e w' => ∃ sv', e = .returned (txVal r.kind n sv') ∧ w'.ownsRow base 39 8 sv' (standB (l ++ [r]) r.txn).length (flat (standB (l ++ [r]) r.txn)) ∧ (∀ g, sv'.ownBlock = some g → sv.ownBlock = some g ∨ w.heap.size ≤ g) ∧ Gr sv.ownBlock w w' := by
  have hs := stand_len hR r.txn
  rcases recErr_kind he with k | k
  · rw [standB_write he hf k]
    refine (with_write s last n sv (standB l r.txn) base r w hown hs k hb).mono ?_
    rintro e w' ⟨sv', rfl, ho, hor, g⟩
    refine ⟨sv', by rw [k], ho, fun b hb => ?_, g⟩
    rcases hor with h | ⟨x, hx, h⟩
    · rw [h] at hb; exact Or.inl hb
    · rw [h] at hb; injection hb with hb; subst hb; exact Or.inr hx
  · have h3 : r.kind = 3 → standB l r.txn ≠ [] := fun k3 => by
      obtain ⟨st, x, hst, _⟩ := back_last hf k3
      rw [hst]; simp
    have hst : standB (l ++ [r]) r.txn = standK r.kind (standB l r.txn) := by
      unfold standK
      rcases k with k | k | k
      · rw [standB_commit he hf k, k]; rfl
      · rw [standB_back hR he hf k, k]; rfl
      · rw [standB_end he hf k, k]; rfl
    obtain ⟨o1, o2⟩ := own_keep (k := r.kind) hown h3
    obtain ⟨a, m, cap, rfl⟩ : ∃ a m cap, sv = .slice a m cap := own_slice hown
    have hm := own_len hown
    have hmc : m ≤ cap ∧ (0 < m → a ≠ none) := by
      rcases hown.2 with ⟨e, _⟩ | ⟨g, cap', cur, e, _, _, hc, _⟩
      · injection e with e1 e2 e3; omega
      · injection e with e1 e2 e3; exact ⟨by omega, fun _ => by rw [e1]; simp⟩
    refine (with_other s last n a m cap r w k (fun k3 => ?_) (by omega) hmc.1).mono ?_
    · have : 0 < m := by
        rw [hm]; exact List.length_pos_iff.2 (h3 k3)
      exact ⟨this, hmc.2 this⟩
    · rintro e w' ⟨rfl, hw⟩
      refine ⟨_, rfl, ?_, fun b hb => Or.inl (o2 b hb), Gr.of_ext hw⟩
      rw [hst]
      exact own_ext o1 hw
end Go.Proofs.Ytgojonhjhdbpkaa.B
