/- The desk's orders that turn the world: write, commit, abort, sync, flush. -/
import Derived.Test.YtibfgbmhmdggmaaGreatDoorBnd1
namespace Go.Proofs.YtibfgbmhmdggmaaGreatDoor.B
set_option maxHeartbeats 32000000
set_option maxRecDepth 100000
open Go.ChangeShapes Go.WideShapes Go.ChangeAt Go.RowKit
def OrdAns (cb : Nat) (W : Wd) (T : Told) (w w' : World) (e : Ending) : Prop :=
 Gr (some cb) w w' ∧ ((T.err = 0 ∧ ∃ v, e = .returned v ∧ Tells w' v T.text ∧ Ck w' cb T.wd) ∨ (T.err ≠ 0 ∧ e = left T.err ∧ Ck w' cb W))
theorem tells_ok (w : World) : Tells w (.iface 9 (tx sOk)) sOk := fun W' _ => (tell_str sOk W').mono fun _ _ ⟨h1, h2⟩ => ⟨h1, h2 ▸ Ext.refl _⟩
theorem gr_cell {row : Nat} {w w' : World} {b o : Nat} {v : Value} (g : Gr (some row) w w') (h : w.cell? ⟨b, o, none⟩ = some v) (hn : b ≠ row) : w'.cell? ⟨b, o, none⟩ = some v := by
 have hb := g.block b (cell_lt h) (fun e => hn (by injection e))
 simp only [World.cell?, hb] at h ⊢
 exact h
theorem ord1_any (cb bc nb ncap : Nat) (n0 n1 n2 n3 : Int) (W : Wd) (w : World) (C : Ck w cb W) (hp : w.cell? ⟨bc, 0, none⟩ = some (.pointer (some ⟨cb, 0, none⟩))) (h0 : w.cell? ⟨nb, 0, none⟩ = some (.int .i64 n0)) (h1 : w.cell? ⟨nb, 1, none⟩ = some (.int .i64 n1)) (h2 : w.cell? ⟨nb, 2, none⟩ = some (.int .i64 n2)) (h3 : w.cell? ⟨nb, 3, none⟩ = some (.int .i64 n3)) (hcb1 : bc ≠ cb) (hcb2 : nb ≠ cb) :
  Calls Tryz.prog 62 #[.slice (some ⟨nb, 0, none⟩) 4 ncap, .pointer (some ⟨bc, 0, none⟩)] w fun e w' => OrdAns cb W (actT W ⟨1, n0, n1, n2, n3⟩) w w' e := by
 obtain ⟨a, cap, B, L, hne⟩ := C
 have HA : ∀ W', Ext w W' → Calls Tryz.prog 64 #[wdVal W.p W.q W.r (.slice a W.l.length cap) W.safe, .int .i64 n0, .int .i64 n1, .int .i64 n2, .int .i64 n3] W' fun e w' => Ext W' w' ∧ DoW W'.heap.size w' e (if doErr W ⟨1, n0, n1, n2, n3⟩ = 0 then doTo W ⟨1, n0, n1, n2, n3⟩ else noWd) (doErr W ⟨1, n0, n1, n2, n3⟩) := fun W' e => by
  obtain ⟨e1, e2⟩ := do_k1 (W := W) (x := ⟨1, n0, n1, n2, n3⟩) rfl
  rw [e1, e2]
  exact (workWrite_any W.p W.q W.r a W.l.length cap W.l W.safe n0 n1 n2 n3 W' (L.ext e)).mono fun _ _ ⟨z1, z2⟩ => And.intro z1 z2.dw
 have hxT : Hid ((actT W ⟨1, n0, n1, n2, n3⟩).err = doErr W ⟨1, n0, n1, n2, n3⟩) := rfl
 have hcl := B.lt
 by_cases hx : doErr W ⟨1, n0, n1, n2, n3⟩ = 0
 ·have hx := (show Hid (doErr W ⟨1, n0, n1, n2, n3⟩ = 0) from hx)
  rw [if_pos hx.out] at HA
  rw [hx.out] at HA
  generalize hV : doTo W ⟨1, n0, n1, n2, n3⟩ = V at *
  go_enter Tryz.func62, Tryz.ntmps62
  go_wp2_with fail
  have Ed := (Ext.refl w).drew
  have E1 := Ed
  refine wp_region_held_drew (S := (fun W' => W'.cell? ⟨bc, 0, none⟩ = some (.pointer (some ⟨cb, 0, none⟩)) ∧ W'.cell? ⟨nb, 0, none⟩ = some (.int .i64 n0) ∧ W'.cell? ⟨nb, 1, none⟩ = some (.int .i64 n1) ∧ W'.cell? ⟨nb, 2, none⟩ = some (.int .i64 n2) ∧ W'.cell? ⟨nb, 3, none⟩ = some (.int .i64 n3))) (by kernel_rfl) ⟨Ed.cell hp, Ed.cell h0, Ed.cell h1, Ed.cell h2, Ed.cell h3⟩ (fun hHeld => ?_)
  refine tkn 0 rfl hHeld ?_
  simp only [Act.put]
  refine tkn 1 rfl hHeld ?_
  simp only [Act.put]
  refine tkn 2 rfl hHeld ?_
  simp only [Act.put]
  refine tkn 3 rfl hHeld ?_
  simp only [Act.put]
  refine tkn 5 rfl hHeld ?_
  simp only [Act.put]
  refine tkn 6 rfl hHeld ?_
  simp only [Act.put]
  refine tkn 7 rfl hHeld ?_
  simp only [Act.put]
  refine tkn 8 rfl hHeld ?_
  simp only [Act.put]
  refine tkn 9 rfl hHeld ?_
  simp only [Act.put]
  refine tkn 10 rfl hHeld ?_
  simp only [Act.put]
  refine tkn 11 rfl hHeld ?_
  simp only [Act.put]
  refine tkn 12 rfl hHeld ?_
  simp only [Act.put]
  refine tkn 13 rfl hHeld ?_
  simp only [Act.put]
  refine tkn 14 rfl hHeld ?_
  simp only [Act.put]
  refine tkn 15 rfl hHeld ?_
  simp only [Act.put]
  refine tkn 16 rfl hHeld ?_
  simp only [Act.put]
  have b_ := (B.ext Ed).cell
  refine exn 4 rfl fun K hK => ?_
  go_simp
  refine hK.out _ _ ⟨Ed.cell hp, Ed.cell h0, Ed.cell h1, Ed.cell h2, Ed.cell h3⟩ (fun hHeld => ?_)
  clear hK K b_
  refine exn 17 rfl fun K hK => ?_
  go_simp
  refine (HA _ Ed).mono ?_
  rintro e w1 ⟨hw, a', cap', rfl, L1, hfrom⟩
  have E2 := Ed.trans hw
  have B1 := B.ext E2
  go_wp2_with fail
  refine hK.out _ _ ⟨E2.cell hp, E2.cell h0, E2.cell h1, E2.cell h2, E2.cell h3⟩ (fun hHeld => ?_)
  clear hK K
  refine tkn 18 rfl hHeld ?_
  simp only [Act.put]
  refine tkn 19 rfl hHeld ?_
  simp only [Act.put]
  refine exn 20 rfl fun K hK => ?_
  go_simp
  refine (clerk_ok cb _ rfl V.p V.q V.r a' V.l.length cap' V.safe w1 B1).mono ?_
  rintro e w2 ⟨rfl, g, B2⟩
  have HV := (show Hid (doTo W ⟨1, n0, n1, n2, n3⟩ = V) from hV)
  have HL := (show Hid (LogIn w2 a' V.l.length cap' V.l) from L1.gr g (fun ad e2 e3 => by injection e3 with e3; have h1 := hfrom ad e2; rw [e3] at h1; have h2 := hcl; simp at h1; omega))
  have HF : Hid (∀ ad, a' = some ad → ad.block ≠ cb) := fun ad e2 e3 => by have h1 := hfrom ad e2; rw [e3] at h1; simp at h1; omega
  have HG := (show Hid (Gr (some cb) w w2) from (Gr.of_ext E2).trans g)
  have HB := (show Hid (Blk w2 cb (wdCells V.p V.q V.r (.slice a' V.l.length cap') V.safe) 41) from B2)
  clear hV hfrom
  go_wp2_with fail
  refine hK.out _ _ ⟨gr_cell g (E2.cell hp) hcb1, gr_cell g (E2.cell h0) hcb2, gr_cell g (E2.cell h1) hcb2, gr_cell g (E2.cell h2) hcb2, gr_cell g (E2.cell h3) hcb2⟩ (fun hHeld => ?_)
  clear hK K
  refine exn 21 rfl fun K hK => ?_
  go_simp
  refine hK.out _ _ hHeld (fun hHeld => ?_)
  clear hK K hHeld
  refine wpAnyH_done (by kernel_rfl) ?_ _
  go_wp2_with fail
  go_ret
  exact ⟨HG.out, Or.inl ⟨hx.out, _, rfl, tells_ok _, by show Ck w2 cb (doTo W ⟨1, n0, n1, n2, n3⟩); rw [HV.out]; exact ⟨a', cap', HB.out, HL.out, HF.out⟩⟩⟩
 ·have hx := (show Hid (doErr W ⟨1, n0, n1, n2, n3⟩ ≠ 0) from hx)
  rw [if_neg hx.out] at HA
  generalize doErr W ⟨1, n0, n1, n2, n3⟩ = xx at *
  skip
  go_enter Tryz.func62, Tryz.ntmps62
  go_wp2_with fail
  have Ed := (Ext.refl w).drew
  have E1 := Ed
  refine wp_region_held_drew (S := (fun W' => W'.cell? ⟨bc, 0, none⟩ = some (.pointer (some ⟨cb, 0, none⟩)) ∧ W'.cell? ⟨nb, 0, none⟩ = some (.int .i64 n0) ∧ W'.cell? ⟨nb, 1, none⟩ = some (.int .i64 n1) ∧ W'.cell? ⟨nb, 2, none⟩ = some (.int .i64 n2) ∧ W'.cell? ⟨nb, 3, none⟩ = some (.int .i64 n3))) (by kernel_rfl) ⟨Ed.cell hp, Ed.cell h0, Ed.cell h1, Ed.cell h2, Ed.cell h3⟩ (fun hHeld => ?_)
  refine tkn 0 rfl hHeld ?_
  simp only [Act.put]
  refine tkn 1 rfl hHeld ?_
  simp only [Act.put]
  refine tkn 2 rfl hHeld ?_
  simp only [Act.put]
  refine tkn 3 rfl hHeld ?_
  simp only [Act.put]
  refine tkn 5 rfl hHeld ?_
  simp only [Act.put]
  refine tkn 6 rfl hHeld ?_
  simp only [Act.put]
  refine tkn 7 rfl hHeld ?_
  simp only [Act.put]
  refine tkn 8 rfl hHeld ?_
  simp only [Act.put]
  refine tkn 9 rfl hHeld ?_
  simp only [Act.put]
  refine tkn 10 rfl hHeld ?_
  simp only [Act.put]
  refine tkn 11 rfl hHeld ?_
  simp only [Act.put]
  refine tkn 12 rfl hHeld ?_
  simp only [Act.put]
  refine tkn 13 rfl hHeld ?_
  simp only [Act.put]
  refine tkn 14 rfl hHeld ?_
  simp only [Act.put]
  refine tkn 15 rfl hHeld ?_
  simp only [Act.put]
  refine tkn 16 rfl hHeld ?_
  simp only [Act.put]
  have b_ := (B.ext Ed).cell
  refine exn 4 rfl fun K hK => ?_
  go_simp
  refine hK.out _ _ ⟨Ed.cell hp, Ed.cell h0, Ed.cell h1, Ed.cell h2, Ed.cell h3⟩ (fun hHeld => ?_)
  clear hK K b_
  refine exn 17 rfl fun K hK => ?_
  go_simp
  refine (HA _ Ed).mono ?_
  rintro e w1 ⟨hw, a', cap', rfl, L1, hfrom⟩
  have E2 := Ed.trans hw
  have B1 := B.ext E2
  go_wp2_with fail
  refine hK.out _ _ ⟨E2.cell hp, E2.cell h0, E2.cell h1, E2.cell h2, E2.cell h3⟩ (fun hHeld => ?_)
  clear hK K
  refine tkn 18 rfl hHeld ?_
  simp only [Act.put]
  refine tkn 19 rfl hHeld ?_
  simp only [Act.put]
  refine exn 20 rfl fun K hK => ?_
  go_simp
  refine (clerk_no cb _ xx hx.out w1 ⟨_, _, _, _, _, _, _, rfl⟩).mono ?_
  rintro e w2 ⟨rfl, hw2⟩
  have HG := (show Hid (Gr (some cb) w w2) from (Gr.of_ext E2).trans (Gr.of_ext hw2))
  have HC : Hid (Ck w2 cb W) := ⟨a, cap, B.ext (E2.trans hw2), L.ext (E2.trans hw2), hne⟩
  go_wp2_with fail
  exact ⟨rfl, HG.out, Or.inr ⟨by rw [hxT.out]; exact hx.out, by rw [hxT.out], HC.out⟩⟩
theorem ord2_any (cb bc nb ncap : Nat) (n0 : Int) (W : Wd) (w : World) (C : Ck w cb W) (hp : w.cell? ⟨bc, 0, none⟩ = some (.pointer (some ⟨cb, 0, none⟩))) (h0 : w.cell? ⟨nb, 0, none⟩ = some (.int .i64 n0)) (hcb1 : bc ≠ cb) (hcb2 : nb ≠ cb) :
  Calls Tryz.prog 65 #[.slice (some ⟨nb, 0, none⟩) 1 ncap, .pointer (some ⟨bc, 0, none⟩)] w fun e w' => OrdAns cb W (actT W ⟨2, n0, 0, 0, 0⟩) w w' e := by
 obtain ⟨a, cap, B, L, hne⟩ := C
 have HA : ∀ W', Ext w W' → Calls Tryz.prog 66 #[wdVal W.p W.q W.r (.slice a W.l.length cap) W.safe, .int .i64 n0] W' fun e w' => Ext W' w' ∧ DoW W'.heap.size w' e (if doErr W ⟨2, n0, 0, 0, 0⟩ = 0 then doTo W ⟨2, n0, 0, 0, 0⟩ else noWd) (doErr W ⟨2, n0, 0, 0, 0⟩) := fun W' e => by
  obtain ⟨e1, e2⟩ := do_k2 (W := W) (x := ⟨2, n0, 0, 0, 0⟩) rfl
  rw [e1, e2]
  exact (workCommit_any W.p W.q W.r a W.l.length cap W.l W.safe n0 W' (L.ext e)).mono fun _ _ ⟨z1, z2⟩ => And.intro z1 z2.dw
 have hxT : Hid ((actT W ⟨2, n0, 0, 0, 0⟩).err = doErr W ⟨2, n0, 0, 0, 0⟩) := rfl
 have hcl := B.lt
 by_cases hx : doErr W ⟨2, n0, 0, 0, 0⟩ = 0
 ·have hx := (show Hid (doErr W ⟨2, n0, 0, 0, 0⟩ = 0) from hx)
  rw [if_pos hx.out] at HA
  rw [hx.out] at HA
  generalize hV : doTo W ⟨2, n0, 0, 0, 0⟩ = V at *
  go_enter Tryz.func65, Tryz.ntmps65
  go_wp2_with fail
  have Ed := (Ext.refl w).drew
  have E1 := Ed
  refine wp_region_held_drew (S := (fun W' => W'.cell? ⟨bc, 0, none⟩ = some (.pointer (some ⟨cb, 0, none⟩)) ∧ W'.cell? ⟨nb, 0, none⟩ = some (.int .i64 n0))) (by kernel_rfl) ⟨Ed.cell hp, Ed.cell h0⟩ (fun hHeld => ?_)
  refine tkn 0 rfl hHeld ?_
  simp only [Act.put]
  refine tkn 1 rfl hHeld ?_
  simp only [Act.put]
  refine tkn 2 rfl hHeld ?_
  simp only [Act.put]
  refine tkn 3 rfl hHeld ?_
  simp only [Act.put]
  refine tkn 5 rfl hHeld ?_
  simp only [Act.put]
  refine tkn 6 rfl hHeld ?_
  simp only [Act.put]
  refine tkn 7 rfl hHeld ?_
  simp only [Act.put]
  have b_ := (B.ext Ed).cell
  refine exn 4 rfl fun K hK => ?_
  go_simp
  refine hK.out _ _ ⟨Ed.cell hp, Ed.cell h0⟩ (fun hHeld => ?_)
  clear hK K b_
  refine exn 8 rfl fun K hK => ?_
  go_simp
  refine (HA _ Ed).mono ?_
  rintro e w1 ⟨hw, a', cap', rfl, L1, hfrom⟩
  have E2 := Ed.trans hw
  have B1 := B.ext E2
  go_wp2_with fail
  refine hK.out _ _ ⟨E2.cell hp, E2.cell h0⟩ (fun hHeld => ?_)
  clear hK K
  refine tkn 9 rfl hHeld ?_
  simp only [Act.put]
  refine tkn 10 rfl hHeld ?_
  simp only [Act.put]
  refine exn 11 rfl fun K hK => ?_
  go_simp
  refine (clerk_ok cb _ rfl V.p V.q V.r a' V.l.length cap' V.safe w1 B1).mono ?_
  rintro e w2 ⟨rfl, g, B2⟩
  have HV := (show Hid (doTo W ⟨2, n0, 0, 0, 0⟩ = V) from hV)
  have HL := (show Hid (LogIn w2 a' V.l.length cap' V.l) from L1.gr g (fun ad e2 e3 => by injection e3 with e3; have h1 := hfrom ad e2; rw [e3] at h1; have h2 := hcl; simp at h1; omega))
  have HF : Hid (∀ ad, a' = some ad → ad.block ≠ cb) := fun ad e2 e3 => by have h1 := hfrom ad e2; rw [e3] at h1; simp at h1; omega
  have HG := (show Hid (Gr (some cb) w w2) from (Gr.of_ext E2).trans g)
  have HB := (show Hid (Blk w2 cb (wdCells V.p V.q V.r (.slice a' V.l.length cap') V.safe) 41) from B2)
  clear hV hfrom
  go_wp2_with fail
  refine hK.out _ _ ⟨gr_cell g (E2.cell hp) hcb1, gr_cell g (E2.cell h0) hcb2⟩ (fun hHeld => ?_)
  clear hK K
  refine exn 12 rfl fun K hK => ?_
  go_simp
  refine hK.out _ _ hHeld (fun hHeld => ?_)
  clear hK K hHeld
  refine wpAnyH_done (by kernel_rfl) ?_ _
  go_wp2_with fail
  go_ret
  exact ⟨HG.out, Or.inl ⟨hx.out, _, rfl, tells_ok _, by show Ck w2 cb (doTo W ⟨2, n0, 0, 0, 0⟩); rw [HV.out]; exact ⟨a', cap', HB.out, HL.out, HF.out⟩⟩⟩
 ·have hx := (show Hid (doErr W ⟨2, n0, 0, 0, 0⟩ ≠ 0) from hx)
  rw [if_neg hx.out] at HA
  generalize doErr W ⟨2, n0, 0, 0, 0⟩ = xx at *
  skip
  go_enter Tryz.func65, Tryz.ntmps65
  go_wp2_with fail
  have Ed := (Ext.refl w).drew
  have E1 := Ed
  refine wp_region_held_drew (S := (fun W' => W'.cell? ⟨bc, 0, none⟩ = some (.pointer (some ⟨cb, 0, none⟩)) ∧ W'.cell? ⟨nb, 0, none⟩ = some (.int .i64 n0))) (by kernel_rfl) ⟨Ed.cell hp, Ed.cell h0⟩ (fun hHeld => ?_)
  refine tkn 0 rfl hHeld ?_
  simp only [Act.put]
  refine tkn 1 rfl hHeld ?_
  simp only [Act.put]
  refine tkn 2 rfl hHeld ?_
  simp only [Act.put]
  refine tkn 3 rfl hHeld ?_
  simp only [Act.put]
  refine tkn 5 rfl hHeld ?_
  simp only [Act.put]
  refine tkn 6 rfl hHeld ?_
  simp only [Act.put]
  refine tkn 7 rfl hHeld ?_
  simp only [Act.put]
  have b_ := (B.ext Ed).cell
  refine exn 4 rfl fun K hK => ?_
  go_simp
  refine hK.out _ _ ⟨Ed.cell hp, Ed.cell h0⟩ (fun hHeld => ?_)
  clear hK K b_
  refine exn 8 rfl fun K hK => ?_
  go_simp
  refine (HA _ Ed).mono ?_
  rintro e w1 ⟨hw, a', cap', rfl, L1, hfrom⟩
  have E2 := Ed.trans hw
  have B1 := B.ext E2
  go_wp2_with fail
  refine hK.out _ _ ⟨E2.cell hp, E2.cell h0⟩ (fun hHeld => ?_)
  clear hK K
  refine tkn 9 rfl hHeld ?_
  simp only [Act.put]
  refine tkn 10 rfl hHeld ?_
  simp only [Act.put]
  refine exn 11 rfl fun K hK => ?_
  go_simp
  refine (clerk_no cb _ xx hx.out w1 ⟨_, _, _, _, _, _, _, rfl⟩).mono ?_
  rintro e w2 ⟨rfl, hw2⟩
  have HG := (show Hid (Gr (some cb) w w2) from (Gr.of_ext E2).trans (Gr.of_ext hw2))
  have HC : Hid (Ck w2 cb W) := ⟨a, cap, B.ext (E2.trans hw2), L.ext (E2.trans hw2), hne⟩
  go_wp2_with fail
  exact ⟨rfl, HG.out, Or.inr ⟨by rw [hxT.out]; exact hx.out, by rw [hxT.out], HC.out⟩⟩
theorem ord3_any (cb bc nb ncap : Nat) (n0 : Int) (W : Wd) (w : World) (C : Ck w cb W) (hp : w.cell? ⟨bc, 0, none⟩ = some (.pointer (some ⟨cb, 0, none⟩))) (h0 : w.cell? ⟨nb, 0, none⟩ = some (.int .i64 n0)) (hcb1 : bc ≠ cb) (hcb2 : nb ≠ cb) :
  Calls Tryz.prog 67 #[.slice (some ⟨nb, 0, none⟩) 1 ncap, .pointer (some ⟨bc, 0, none⟩)] w fun e w' => OrdAns cb W (actT W ⟨3, n0, 0, 0, 0⟩) w w' e := by
 obtain ⟨a, cap, B, L, hne⟩ := C
 have HA : ∀ W', Ext w W' → Calls Tryz.prog 68 #[wdVal W.p W.q W.r (.slice a W.l.length cap) W.safe, .int .i64 n0] W' fun e w' => Ext W' w' ∧ DoW W'.heap.size w' e (if doErr W ⟨3, n0, 0, 0, 0⟩ = 0 then doTo W ⟨3, n0, 0, 0, 0⟩ else noWd) (doErr W ⟨3, n0, 0, 0, 0⟩) := fun W' e => by
  obtain ⟨e1, e2⟩ := do_k3 (W := W) (x := ⟨3, n0, 0, 0, 0⟩) rfl
  rw [e1, e2]
  exact (rollAbort_any W.p W.q W.r a W.l.length cap W.l W.safe n0 W' (L.ext e)).mono fun _ _ ⟨z1, z2⟩ => And.intro z1 z2.dw
 have hxT : Hid ((actT W ⟨3, n0, 0, 0, 0⟩).err = doErr W ⟨3, n0, 0, 0, 0⟩) := rfl
 have hcl := B.lt
 by_cases hx : doErr W ⟨3, n0, 0, 0, 0⟩ = 0
 ·have hx := (show Hid (doErr W ⟨3, n0, 0, 0, 0⟩ = 0) from hx)
  rw [if_pos hx.out] at HA
  rw [hx.out] at HA
  generalize hV : doTo W ⟨3, n0, 0, 0, 0⟩ = V at *
  go_enter Tryz.func67, Tryz.ntmps67
  go_wp2_with fail
  have Ed := (Ext.refl w).drew
  have E1 := Ed
  refine wp_region_held_drew (S := (fun W' => W'.cell? ⟨bc, 0, none⟩ = some (.pointer (some ⟨cb, 0, none⟩)) ∧ W'.cell? ⟨nb, 0, none⟩ = some (.int .i64 n0))) (by kernel_rfl) ⟨Ed.cell hp, Ed.cell h0⟩ (fun hHeld => ?_)
  refine tkn 0 rfl hHeld ?_
  simp only [Act.put]
  refine tkn 1 rfl hHeld ?_
  simp only [Act.put]
  refine tkn 2 rfl hHeld ?_
  simp only [Act.put]
  refine tkn 3 rfl hHeld ?_
  simp only [Act.put]
  refine tkn 5 rfl hHeld ?_
  simp only [Act.put]
  refine tkn 6 rfl hHeld ?_
  simp only [Act.put]
  refine tkn 7 rfl hHeld ?_
  simp only [Act.put]
  have b_ := (B.ext Ed).cell
  refine exn 4 rfl fun K hK => ?_
  go_simp
  refine hK.out _ _ ⟨Ed.cell hp, Ed.cell h0⟩ (fun hHeld => ?_)
  clear hK K b_
  refine exn 8 rfl fun K hK => ?_
  go_simp
  refine (HA _ Ed).mono ?_
  rintro e w1 ⟨hw, a', cap', rfl, L1, hfrom⟩
  have E2 := Ed.trans hw
  have B1 := B.ext E2
  go_wp2_with fail
  refine hK.out _ _ ⟨E2.cell hp, E2.cell h0⟩ (fun hHeld => ?_)
  clear hK K
  refine tkn 9 rfl hHeld ?_
  simp only [Act.put]
  refine tkn 10 rfl hHeld ?_
  simp only [Act.put]
  refine exn 11 rfl fun K hK => ?_
  go_simp
  refine (clerk_ok cb _ rfl V.p V.q V.r a' V.l.length cap' V.safe w1 B1).mono ?_
  rintro e w2 ⟨rfl, g, B2⟩
  have HV := (show Hid (doTo W ⟨3, n0, 0, 0, 0⟩ = V) from hV)
  have HL := (show Hid (LogIn w2 a' V.l.length cap' V.l) from L1.gr g (fun ad e2 e3 => by injection e3 with e3; have h1 := hfrom ad e2; rw [e3] at h1; have h2 := hcl; simp at h1; omega))
  have HF : Hid (∀ ad, a' = some ad → ad.block ≠ cb) := fun ad e2 e3 => by have h1 := hfrom ad e2; rw [e3] at h1; simp at h1; omega
  have HG := (show Hid (Gr (some cb) w w2) from (Gr.of_ext E2).trans g)
  have HB := (show Hid (Blk w2 cb (wdCells V.p V.q V.r (.slice a' V.l.length cap') V.safe) 41) from B2)
  clear hV hfrom
  go_wp2_with fail
  refine hK.out _ _ ⟨gr_cell g (E2.cell hp) hcb1, gr_cell g (E2.cell h0) hcb2⟩ (fun hHeld => ?_)
  clear hK K
  refine exn 12 rfl fun K hK => ?_
  go_simp
  refine hK.out _ _ hHeld (fun hHeld => ?_)
  clear hK K hHeld
  refine wpAnyH_done (by kernel_rfl) ?_ _
  go_wp2_with fail
  go_ret
  exact ⟨HG.out, Or.inl ⟨hx.out, _, rfl, tells_ok _, by show Ck w2 cb (doTo W ⟨3, n0, 0, 0, 0⟩); rw [HV.out]; exact ⟨a', cap', HB.out, HL.out, HF.out⟩⟩⟩
 ·have hx := (show Hid (doErr W ⟨3, n0, 0, 0, 0⟩ ≠ 0) from hx)
  rw [if_neg hx.out] at HA
  generalize doErr W ⟨3, n0, 0, 0, 0⟩ = xx at *
  skip
  go_enter Tryz.func67, Tryz.ntmps67
  go_wp2_with fail
  have Ed := (Ext.refl w).drew
  have E1 := Ed
  refine wp_region_held_drew (S := (fun W' => W'.cell? ⟨bc, 0, none⟩ = some (.pointer (some ⟨cb, 0, none⟩)) ∧ W'.cell? ⟨nb, 0, none⟩ = some (.int .i64 n0))) (by kernel_rfl) ⟨Ed.cell hp, Ed.cell h0⟩ (fun hHeld => ?_)
  refine tkn 0 rfl hHeld ?_
  simp only [Act.put]
  refine tkn 1 rfl hHeld ?_
  simp only [Act.put]
  refine tkn 2 rfl hHeld ?_
  simp only [Act.put]
  refine tkn 3 rfl hHeld ?_
  simp only [Act.put]
  refine tkn 5 rfl hHeld ?_
  simp only [Act.put]
  refine tkn 6 rfl hHeld ?_
  simp only [Act.put]
  refine tkn 7 rfl hHeld ?_
  simp only [Act.put]
  have b_ := (B.ext Ed).cell
  refine exn 4 rfl fun K hK => ?_
  go_simp
  refine hK.out _ _ ⟨Ed.cell hp, Ed.cell h0⟩ (fun hHeld => ?_)
  clear hK K b_
  refine exn 8 rfl fun K hK => ?_
  go_simp
  refine (HA _ Ed).mono ?_
  rintro e w1 ⟨hw, a', cap', rfl, L1, hfrom⟩
  have E2 := Ed.trans hw
  have B1 := B.ext E2
  go_wp2_with fail
  refine hK.out _ _ ⟨E2.cell hp, E2.cell h0⟩ (fun hHeld => ?_)
  clear hK K
  refine tkn 9 rfl hHeld ?_
  simp only [Act.put]
  refine tkn 10 rfl hHeld ?_
  simp only [Act.put]
  refine exn 11 rfl fun K hK => ?_
  go_simp
  refine (clerk_no cb _ xx hx.out w1 ⟨_, _, _, _, _, _, _, rfl⟩).mono ?_
  rintro e w2 ⟨rfl, hw2⟩
  have HG := (show Hid (Gr (some cb) w w2) from (Gr.of_ext E2).trans (Gr.of_ext hw2))
  have HC : Hid (Ck w2 cb W) := ⟨a, cap, B.ext (E2.trans hw2), L.ext (E2.trans hw2), hne⟩
  go_wp2_with fail
  exact ⟨rfl, HG.out, Or.inr ⟨by rw [hxT.out]; exact hx.out, by rw [hxT.out], HC.out⟩⟩
theorem ord4_any (cb bc nb ncap : Nat) (n0 : Int) (W : Wd) (w : World) (C : Ck w cb W) (hp : w.cell? ⟨bc, 0, none⟩ = some (.pointer (some ⟨cb, 0, none⟩))) (h0 : w.cell? ⟨nb, 0, none⟩ = some (.int .i64 n0)) (hcb1 : bc ≠ cb) (hcb2 : nb ≠ cb) :
  Calls Tryz.prog 69 #[.slice (some ⟨nb, 0, none⟩) 1 ncap, .pointer (some ⟨bc, 0, none⟩)] w fun e w' => OrdAns cb W (actT W ⟨4, 0, 0, 0, n0⟩) w w' e := by
 obtain ⟨a, cap, B, L, hne⟩ := C
 have HA : ∀ W', Ext w W' → Calls Tryz.prog 70 #[wdVal W.p W.q W.r (.slice a W.l.length cap) W.safe, .int .i64 n0] W' fun e w' => Ext W' w' ∧ DoW W'.heap.size w' e (if doErr W ⟨4, 0, 0, 0, n0⟩ = 0 then doTo W ⟨4, 0, 0, 0, n0⟩ else noWd) (doErr W ⟨4, 0, 0, 0, n0⟩) := fun W' e => by
  obtain ⟨e1, e2⟩ := do_k4 (W := W) (x := ⟨4, 0, 0, 0, n0⟩) rfl
  rw [e1, e2]
  exact (flushSync_any W.p W.q W.r a W.l.length cap W.l W.safe n0 W' (L.ext e)).mono fun _ _ ⟨z1, z2⟩ => And.intro z1 z2.dw
 have hxT : Hid ((actT W ⟨4, 0, 0, 0, n0⟩).err = doErr W ⟨4, 0, 0, 0, n0⟩) := rfl
 have hcl := B.lt
 by_cases hx : doErr W ⟨4, 0, 0, 0, n0⟩ = 0
 ·have hx := (show Hid (doErr W ⟨4, 0, 0, 0, n0⟩ = 0) from hx)
  rw [if_pos hx.out] at HA
  rw [hx.out] at HA
  generalize hV : doTo W ⟨4, 0, 0, 0, n0⟩ = V at *
  go_enter Tryz.func69, Tryz.ntmps69
  go_wp2_with fail
  have Ed := (Ext.refl w).drew
  have E1 := Ed
  refine wp_region_held_drew (S := (fun W' => W'.cell? ⟨bc, 0, none⟩ = some (.pointer (some ⟨cb, 0, none⟩)) ∧ W'.cell? ⟨nb, 0, none⟩ = some (.int .i64 n0))) (by kernel_rfl) ⟨Ed.cell hp, Ed.cell h0⟩ (fun hHeld => ?_)
  refine tkn 0 rfl hHeld ?_
  simp only [Act.put]
  refine tkn 1 rfl hHeld ?_
  simp only [Act.put]
  refine tkn 2 rfl hHeld ?_
  simp only [Act.put]
  refine tkn 3 rfl hHeld ?_
  simp only [Act.put]
  refine tkn 5 rfl hHeld ?_
  simp only [Act.put]
  refine tkn 6 rfl hHeld ?_
  simp only [Act.put]
  refine tkn 7 rfl hHeld ?_
  simp only [Act.put]
  have b_ := (B.ext Ed).cell
  refine exn 4 rfl fun K hK => ?_
  go_simp
  refine hK.out _ _ ⟨Ed.cell hp, Ed.cell h0⟩ (fun hHeld => ?_)
  clear hK K b_
  refine exn 8 rfl fun K hK => ?_
  go_simp
  refine (HA _ Ed).mono ?_
  rintro e w1 ⟨hw, a', cap', rfl, L1, hfrom⟩
  have E2 := Ed.trans hw
  have B1 := B.ext E2
  go_wp2_with fail
  refine hK.out _ _ ⟨E2.cell hp, E2.cell h0⟩ (fun hHeld => ?_)
  clear hK K
  refine tkn 9 rfl hHeld ?_
  simp only [Act.put]
  refine tkn 10 rfl hHeld ?_
  simp only [Act.put]
  refine exn 11 rfl fun K hK => ?_
  go_simp
  refine (clerk_ok cb _ rfl V.p V.q V.r a' V.l.length cap' V.safe w1 B1).mono ?_
  rintro e w2 ⟨rfl, g, B2⟩
  have HV := (show Hid (doTo W ⟨4, 0, 0, 0, n0⟩ = V) from hV)
  have HL := (show Hid (LogIn w2 a' V.l.length cap' V.l) from L1.gr g (fun ad e2 e3 => by injection e3 with e3; have h1 := hfrom ad e2; rw [e3] at h1; have h2 := hcl; simp at h1; omega))
  have HF : Hid (∀ ad, a' = some ad → ad.block ≠ cb) := fun ad e2 e3 => by have h1 := hfrom ad e2; rw [e3] at h1; simp at h1; omega
  have HG := (show Hid (Gr (some cb) w w2) from (Gr.of_ext E2).trans g)
  have HB := (show Hid (Blk w2 cb (wdCells V.p V.q V.r (.slice a' V.l.length cap') V.safe) 41) from B2)
  clear hV hfrom
  go_wp2_with fail
  refine hK.out _ _ ⟨gr_cell g (E2.cell hp) hcb1, gr_cell g (E2.cell h0) hcb2⟩ (fun hHeld => ?_)
  clear hK K
  refine exn 12 rfl fun K hK => ?_
  go_simp
  refine hK.out _ _ hHeld (fun hHeld => ?_)
  clear hK K hHeld
  refine wpAnyH_done (by kernel_rfl) ?_ _
  go_wp2_with fail
  go_ret
  exact ⟨HG.out, Or.inl ⟨hx.out, _, rfl, tells_ok _, by show Ck w2 cb (doTo W ⟨4, 0, 0, 0, n0⟩); rw [HV.out]; exact ⟨a', cap', HB.out, HL.out, HF.out⟩⟩⟩
 ·have hx := (show Hid (doErr W ⟨4, 0, 0, 0, n0⟩ ≠ 0) from hx)
  rw [if_neg hx.out] at HA
  generalize doErr W ⟨4, 0, 0, 0, n0⟩ = xx at *
  skip
  go_enter Tryz.func69, Tryz.ntmps69
  go_wp2_with fail
  have Ed := (Ext.refl w).drew
  have E1 := Ed
  refine wp_region_held_drew (S := (fun W' => W'.cell? ⟨bc, 0, none⟩ = some (.pointer (some ⟨cb, 0, none⟩)) ∧ W'.cell? ⟨nb, 0, none⟩ = some (.int .i64 n0))) (by kernel_rfl) ⟨Ed.cell hp, Ed.cell h0⟩ (fun hHeld => ?_)
  refine tkn 0 rfl hHeld ?_
  simp only [Act.put]
  refine tkn 1 rfl hHeld ?_
  simp only [Act.put]
  refine tkn 2 rfl hHeld ?_
  simp only [Act.put]
  refine tkn 3 rfl hHeld ?_
  simp only [Act.put]
  refine tkn 5 rfl hHeld ?_
  simp only [Act.put]
  refine tkn 6 rfl hHeld ?_
  simp only [Act.put]
  refine tkn 7 rfl hHeld ?_
  simp only [Act.put]
  have b_ := (B.ext Ed).cell
  refine exn 4 rfl fun K hK => ?_
  go_simp
  refine hK.out _ _ ⟨Ed.cell hp, Ed.cell h0⟩ (fun hHeld => ?_)
  clear hK K b_
  refine exn 8 rfl fun K hK => ?_
  go_simp
  refine (HA _ Ed).mono ?_
  rintro e w1 ⟨hw, a', cap', rfl, L1, hfrom⟩
  have E2 := Ed.trans hw
  have B1 := B.ext E2
  go_wp2_with fail
  refine hK.out _ _ ⟨E2.cell hp, E2.cell h0⟩ (fun hHeld => ?_)
  clear hK K
  refine tkn 9 rfl hHeld ?_
  simp only [Act.put]
  refine tkn 10 rfl hHeld ?_
  simp only [Act.put]
  refine exn 11 rfl fun K hK => ?_
  go_simp
  refine (clerk_no cb _ xx hx.out w1 ⟨_, _, _, _, _, _, _, rfl⟩).mono ?_
  rintro e w2 ⟨rfl, hw2⟩
  have HG := (show Hid (Gr (some cb) w w2) from (Gr.of_ext E2).trans (Gr.of_ext hw2))
  have HC : Hid (Ck w2 cb W) := ⟨a, cap, B.ext (E2.trans hw2), L.ext (E2.trans hw2), hne⟩
  go_wp2_with fail
  exact ⟨rfl, HG.out, Or.inr ⟨by rw [hxT.out]; exact hx.out, by rw [hxT.out], HC.out⟩⟩
theorem ord5_any (cb bc nb ncap : Nat) (n0 : Int) (W : Wd) (w : World) (C : Ck w cb W) (hp : w.cell? ⟨bc, 0, none⟩ = some (.pointer (some ⟨cb, 0, none⟩))) (h0 : w.cell? ⟨nb, 0, none⟩ = some (.int .i64 n0)) (hcb1 : bc ≠ cb) (hcb2 : nb ≠ cb) :
  Calls Tryz.prog 71 #[.slice (some ⟨nb, 0, none⟩) 1 ncap, .pointer (some ⟨bc, 0, none⟩)] w fun e w' => OrdAns cb W (actT W ⟨5, 0, n0, 0, 0⟩) w w' e := by
 obtain ⟨a, cap, B, L, hne⟩ := C
 have HA : ∀ W', Ext w W' → Calls Tryz.prog 72 #[wdVal W.p W.q W.r (.slice a W.l.length cap) W.safe, .int .i64 n0] W' fun e w' => Ext W' w' ∧ DoW W'.heap.size w' e (if doErr W ⟨5, 0, n0, 0, 0⟩ = 0 then doTo W ⟨5, 0, n0, 0, 0⟩ else noWd) (doErr W ⟨5, 0, n0, 0, 0⟩) := fun W' e => by
  obtain ⟨e1, e2⟩ := do_k5 (W := W) (x := ⟨5, 0, n0, 0, 0⟩) rfl
  rw [e1, e2]
  exact (flushPage_any W.p W.q W.r a W.l.length cap W.l W.safe n0 W' (L.ext e)).mono fun _ _ ⟨z1, z2⟩ => And.intro z1 z2.dw
 have hxT : Hid ((actT W ⟨5, 0, n0, 0, 0⟩).err = doErr W ⟨5, 0, n0, 0, 0⟩) := rfl
 have hcl := B.lt
 by_cases hx : doErr W ⟨5, 0, n0, 0, 0⟩ = 0
 ·have hx := (show Hid (doErr W ⟨5, 0, n0, 0, 0⟩ = 0) from hx)
  rw [if_pos hx.out] at HA
  rw [hx.out] at HA
  generalize hV : doTo W ⟨5, 0, n0, 0, 0⟩ = V at *
  go_enter Tryz.func71, Tryz.ntmps71
  go_wp2_with fail
  have Ed := (Ext.refl w).drew
  have E1 := Ed
  refine wp_region_held_drew (S := (fun W' => W'.cell? ⟨bc, 0, none⟩ = some (.pointer (some ⟨cb, 0, none⟩)) ∧ W'.cell? ⟨nb, 0, none⟩ = some (.int .i64 n0))) (by kernel_rfl) ⟨Ed.cell hp, Ed.cell h0⟩ (fun hHeld => ?_)
  refine tkn 0 rfl hHeld ?_
  simp only [Act.put]
  refine tkn 1 rfl hHeld ?_
  simp only [Act.put]
  refine tkn 2 rfl hHeld ?_
  simp only [Act.put]
  refine tkn 3 rfl hHeld ?_
  simp only [Act.put]
  refine tkn 5 rfl hHeld ?_
  simp only [Act.put]
  refine tkn 6 rfl hHeld ?_
  simp only [Act.put]
  refine tkn 7 rfl hHeld ?_
  simp only [Act.put]
  have b_ := (B.ext Ed).cell
  refine exn 4 rfl fun K hK => ?_
  go_simp
  refine hK.out _ _ ⟨Ed.cell hp, Ed.cell h0⟩ (fun hHeld => ?_)
  clear hK K b_
  refine exn 8 rfl fun K hK => ?_
  go_simp
  refine (HA _ Ed).mono ?_
  rintro e w1 ⟨hw, a', cap', rfl, L1, hfrom⟩
  have E2 := Ed.trans hw
  have B1 := B.ext E2
  go_wp2_with fail
  refine hK.out _ _ ⟨E2.cell hp, E2.cell h0⟩ (fun hHeld => ?_)
  clear hK K
  refine tkn 9 rfl hHeld ?_
  simp only [Act.put]
  refine tkn 10 rfl hHeld ?_
  simp only [Act.put]
  refine exn 11 rfl fun K hK => ?_
  go_simp
  refine (clerk_ok cb _ rfl V.p V.q V.r a' V.l.length cap' V.safe w1 B1).mono ?_
  rintro e w2 ⟨rfl, g, B2⟩
  have HV := (show Hid (doTo W ⟨5, 0, n0, 0, 0⟩ = V) from hV)
  have HL := (show Hid (LogIn w2 a' V.l.length cap' V.l) from L1.gr g (fun ad e2 e3 => by injection e3 with e3; have h1 := hfrom ad e2; rw [e3] at h1; have h2 := hcl; simp at h1; omega))
  have HF : Hid (∀ ad, a' = some ad → ad.block ≠ cb) := fun ad e2 e3 => by have h1 := hfrom ad e2; rw [e3] at h1; simp at h1; omega
  have HG := (show Hid (Gr (some cb) w w2) from (Gr.of_ext E2).trans g)
  have HB := (show Hid (Blk w2 cb (wdCells V.p V.q V.r (.slice a' V.l.length cap') V.safe) 41) from B2)
  clear hV hfrom
  go_wp2_with fail
  refine hK.out _ _ ⟨gr_cell g (E2.cell hp) hcb1, gr_cell g (E2.cell h0) hcb2⟩ (fun hHeld => ?_)
  clear hK K
  refine exn 12 rfl fun K hK => ?_
  go_simp
  refine hK.out _ _ hHeld (fun hHeld => ?_)
  clear hK K hHeld
  refine wpAnyH_done (by kernel_rfl) ?_ _
  go_wp2_with fail
  go_ret
  exact ⟨HG.out, Or.inl ⟨hx.out, _, rfl, tells_ok _, by show Ck w2 cb (doTo W ⟨5, 0, n0, 0, 0⟩); rw [HV.out]; exact ⟨a', cap', HB.out, HL.out, HF.out⟩⟩⟩
 ·have hx := (show Hid (doErr W ⟨5, 0, n0, 0, 0⟩ ≠ 0) from hx)
  rw [if_neg hx.out] at HA
  generalize doErr W ⟨5, 0, n0, 0, 0⟩ = xx at *
  skip
  go_enter Tryz.func71, Tryz.ntmps71
  go_wp2_with fail
  have Ed := (Ext.refl w).drew
  have E1 := Ed
  refine wp_region_held_drew (S := (fun W' => W'.cell? ⟨bc, 0, none⟩ = some (.pointer (some ⟨cb, 0, none⟩)) ∧ W'.cell? ⟨nb, 0, none⟩ = some (.int .i64 n0))) (by kernel_rfl) ⟨Ed.cell hp, Ed.cell h0⟩ (fun hHeld => ?_)
  refine tkn 0 rfl hHeld ?_
  simp only [Act.put]
  refine tkn 1 rfl hHeld ?_
  simp only [Act.put]
  refine tkn 2 rfl hHeld ?_
  simp only [Act.put]
  refine tkn 3 rfl hHeld ?_
  simp only [Act.put]
  refine tkn 5 rfl hHeld ?_
  simp only [Act.put]
  refine tkn 6 rfl hHeld ?_
  simp only [Act.put]
  refine tkn 7 rfl hHeld ?_
  simp only [Act.put]
  have b_ := (B.ext Ed).cell
  refine exn 4 rfl fun K hK => ?_
  go_simp
  refine hK.out _ _ ⟨Ed.cell hp, Ed.cell h0⟩ (fun hHeld => ?_)
  clear hK K b_
  refine exn 8 rfl fun K hK => ?_
  go_simp
  refine (HA _ Ed).mono ?_
  rintro e w1 ⟨hw, a', cap', rfl, L1, hfrom⟩
  have E2 := Ed.trans hw
  have B1 := B.ext E2
  go_wp2_with fail
  refine hK.out _ _ ⟨E2.cell hp, E2.cell h0⟩ (fun hHeld => ?_)
  clear hK K
  refine tkn 9 rfl hHeld ?_
  simp only [Act.put]
  refine tkn 10 rfl hHeld ?_
  simp only [Act.put]
  refine exn 11 rfl fun K hK => ?_
  go_simp
  refine (clerk_no cb _ xx hx.out w1 ⟨_, _, _, _, _, _, _, rfl⟩).mono ?_
  rintro e w2 ⟨rfl, hw2⟩
  have HG := (show Hid (Gr (some cb) w w2) from (Gr.of_ext E2).trans (Gr.of_ext hw2))
  have HC : Hid (Ck w2 cb W) := ⟨a, cap, B.ext (E2.trans hw2), L.ext (E2.trans hw2), hne⟩
  go_wp2_with fail
  exact ⟨rfl, HG.out, Or.inr ⟨by rw [hxT.out]; exact hx.out, by rw [hxT.out], HC.out⟩⟩
end Go.Proofs.YtibfgbmhmdggmaaGreatDoor.B
