import Derived.Lib.AppendStr
import Derived.Test.YtpogfcfgbnccjaaDoorKn2
namespace Go.Proofs.YtpogfcfgbnccjaaDoor
open Go.RowKit

theorem laidOver_cons (cs : List Value) (o : Nat) (v : Value) (r : List Value) (hl : o < cs.length) : laidOver (cs.set o v) (o + 1) r = laidOver cs o (v :: r) := by
  unfold laidOver
  rw [List.take_succ_eq_append_getElem (by simpa using hl), List.getElem_set_self, List.take_set_of_le (Nat.le_refl _), List.drop_set_of_lt (by omega)]
  simp only [List.length_cons, List.append_assoc, List.cons_append, List.nil_append]
  rw [show o + 1 + r.length = o + (r.length + 1) by omega]
theorem foldl_set (off : Nat) : ∀ (vs : List Value) (k : Nat) (cs : Array Value), off + k + vs.length ≤ cs.size →
    ((vs.zipIdx k).foldl (fun (cs : Array Value) (x : Value × Nat) => cs.setIfInBounds (off + x.2) x.1) cs).toList = laidOver cs.toList (off + k) vs
  | [], k, cs, _ => by simp [laidOver]
  | v :: r, k, cs, h => by
    simp only [List.length_cons] at h
    rw [List.zipIdx_cons, List.foldl_cons, foldl_set off r (k + 1) _ (by simp; omega)]
    show laidOver (cs.setIfInBounds (off + k) v).toList (off + (k + 1)) r = _
    rw [Array.toList_setIfInBounds]
    exact laidOver_cons cs.toList (off + k) v r (by simp; omega)
theorem foldl_arr (off : Nat) (vs cs : Array Value) (h : off + vs.size ≤ cs.size) :
    vs.zipIdx.foldl (fun (cs : Array Value) (x : Value × Nat) => cs.setIfInBounds (off + x.2) x.1) cs = (laidOver cs.toList off vs.toList).toArray := by
  rw [← Array.foldl_toList, Array.toList_zipIdx]
  apply Array.toList_inj.1
  rw [foldl_set off vs.toList 0 cs (by simpa using h)]
  simp
def zMac : List Value := hcells zst z64 0 ++ hcells zst z64 0
theorem zMac_len : zMac.length = 146 := by rw [zMac, List.length_append, hcells_len zst z64 0 rfl]
theorem laid_two (z a b : List Value) (hz : z.length = 146) (ha : a.length = 73) (hb : b.length = 73) : laidOver (laidOver z 0 a) 73 b = a ++ b := by
  have h1 : laidOver z 0 a = a ++ z.drop 73 := by unfold laidOver; simp [ha]
  rw [h1]
  unfold laidOver
  rw [List.take_left' ha, List.drop_eq_nil_of_le (by simp [ha, hb, hz]), List.append_nil]
theorem fill_two (z a b : List Value) (hz : z.length = 146) (ha : a.length = 73) (hb : b.length = 73) :
    Instr.fill (fun i => ([(0, 73), (73, 73)] : List (Nat × Nat)).toArray[i]?) z.toArray [(0, .agg a.toArray), (1, .agg b.toArray)] = some (a ++ b).toArray := by
  have e1 := foldl_arr 0 a.toArray z.toArray (by simp [ha, hz])
  have hl : (laidOver z 0 a).length = 146 := by simp [laidOver, ha, hz]
  have e2 := foldl_arr 73 b.toArray (laidOver z 0 a).toArray (by rw [List.size_toArray, List.size_toArray, hb, hl]; decide)
  simp only at e1 e2
  rw [laid_two z a b hz ha hb] at e2
  unfold Instr.fill
  simp only [Value.cells]
  rw [show ([(0, 73), (73, 73)] : List (Nat × Nat)).toArray[0]? = some (0, 73) from rfl]
  simp only [List.size_toArray, ha, hz]
  rw [if_neg (by decide), e1]
  unfold Instr.fill
  simp only [Value.cells]
  rw [show ([(0, 73), (73, 73)] : List (Nat × Nat)).toArray[1]? = some (73, 73) from rfl]
  simp only [List.size_toArray, hb, hl]
  rw [if_neg (by decide), e2]
  rfl
theorem built_struct {P : Program} {t : TypeId} {it : TypeInfo} {z : Value} {places : List (Nat × Nat)} {fs : Array Field} (hi : P.info? t = some it) (hu : P.underlying t = some (.struct fs)) (hz : it.zero = some z)
    (hp : fs.toList.mapM (fun f => (P.info? f.type).map fun i => (f.offset, i.size)) = some places) (parts : List (Nat × Value)) : P.built t parts = Instr.fill (fun i => places.toArray[i]?) z.cells parts := by
  unfold Program.built
  simp only [hi, hu, hz, hp]
theorem infoMacZ : (Tryd.prog.info? 64).map (·.zero) = some (some (.agg zMac.toArray)) := by kernel_rfl
theorem placesMac : ∃ fs, Tryd.prog.underlying 64 = some (.struct fs) ∧ fs.toList.mapM (fun f => (Tryd.prog.info? f.type).map fun i => (f.offset, i.size)) = some [(0, 73), (73, 73)] := ⟨_, Tryd.underlying64, by kernel_rfl⟩
theorem built_mac (a b : List Value) (ha : a.length = 73) (hb : b.length = 73) (w : World) : (Instr.build 64 #[(0, .agg a.toArray), (1, .agg b.toArray)]).run Tryd.prog w = .ok (.agg (a ++ b).toArray) w := by
  refine run_build w 64 _ _ ?_
  obtain ⟨it, hi, hz⟩ := Option.map_eq_some_iff.1 infoMacZ
  obtain ⟨fs, hu, hp⟩ := placesMac
  rw [built_struct hi hu hz hp]
  exact fill_two zMac a b zMac_len ha hb

theorem step_run {P : Program} {ops : Array Oper} {o : Oper} {a : Act} {w : World} {K : Act → World → Prop} {Q : Exit → Act → World → Prop} {E : Prop} (hg : o.guard = none) (v : Value) (w' : World)
    (hr : (execOp a.eval o).run P w = .ok (.value v) w') (hK : K (a.put o.dst v) w') : if Region.wanted o (yielded ops a.tmps) = true then Oper.wp P o a w K Q else E := by
  rw [if_pos (by simp [Region.wanted, hg])]
  unfold Oper.wp
  rw [hr]
  exact hK
theorem run_build2 {P : Program} {a : Act} {o : Oper} {w : World} (t : TypeId) (x y : Operand) (h : o.op = .build t #[(0, x), (1, y)]) {u v r : Value} (hx : a.eval x = u) (hy : a.eval y = v) (hr : (Instr.build t #[(0, u), (1, v)]).run P w = .ok r w) : (execOp a.eval o).run P w = .ok (.value r) w := by
  subst hx hy
  simp [execOp, h, hr]
theorem run_box2 {P : Program} {a : Act} {o : Oper} {w : World} (t : TypeId) (x : Operand) (h : o.op = .box t x) {cs : Array Value} (hx : a.eval x = .agg cs) : (execOp a.eval o).run P w = .ok (.value (.pointer (some ⟨w.heap.size, 0, none⟩))) (w.alloc (.cells cs t)) := by
  simp [execOp, h, hx, Instr.box, newVar, newRow, Value.cells]
theorem run_assign {P : Program} {a : Act} {o : Oper} {w : World} (x : Operand) (h : o.op = .assign x) {v : Value} (hx : a.eval x = v) : (execOp a.eval o).run P w = .ok (.value v) w := by
  subst hx
  simp [execOp, h]

set_option maxRecDepth 100000 in
set_option maxHeartbeats 800000 in
theorem kbegin_short (key : ByteArray) (w : World) (hl : key.size ≤ 64) (hk : KTab w) (hH : HTab w) (h2 : 2 ≤ w.heap.size) :
    Calls Tryd.prog 24 #[.string key] w fun e w' => ∃ b, e = .returned (.pointer (some ⟨b, 0, none⟩)) ∧ w.heap.size ≤ b ∧ MRep w' b 64 key.data.toList [] ∧ Below w.heap.size w w' := by
  have hkl : key.data.toList.length = key.size := by rw [Array.length_toList]; rfl
  have hp1 := padL_short key.data.toList 0x36 (by omega)
  have hp2 := padL_short key.data.toList 0x5c (by omega)
  have HP1 := hide hp1
  have HP2 := hide hp2
  clear hp1 hp2 hkl
  have jl : ¬ (64 : Int) < (key.size : Int) := by omega
  go_enter Tryd.func24, Tryd.ntmps24
  go_wp2_with fail
  refine (begun_any key 0x36 _ hl hk hH h2).mono ?_
  rintro e w1 ⟨b1, rfl, hge1, hr1, hb1⟩
  have hk1 := hk.below hb1 h2
  have hH1 := hH.below hb1 h2
  have hs1 := hb1.size
  rw [← HP1.out] at hr1
  have hl1 := hr1.lt
  clear hk hH
  go_wp2_with fail
  refine (begun_any key 0x5c _ hl hk1 hH1 (by omega)).mono ?_
  rintro e w2 ⟨b2, rfl, hge2, hr2, hb2⟩
  have hr12 := hr1.below hb2 hl1
  rw [← HP2.out] at hr2
  have HB := hide (hb1.trans (hb2.mono hs1))
  have hge : w.heap.size ≤ w2.heap.size := by have := hb2.size; omega
  obtain ⟨k1, q1, q2, hB1⟩ := hr12
  obtain ⟨k2, q3, q4, hB2⟩ := hr2
  have r1 := hcells_range q1 hB1
  have r2 := hcells_range q3 hB2
  have n1 := hcells_len (Sha.comps (padL key.data.toList 0x36) ((padL key.data.toList 0x36).length / 64)) k1 (padL key.data.toList 0x36).length q1
  have n2 := hcells_len (Sha.comps (padL key.data.toList 0x5c) ((padL key.data.toList 0x5c).length / 64)) k2 (padL key.data.toList 0x5c).length q3
  have HM := hide (show ∀ w', Blk w' w2.heap.size 64 (hcells (Sha.comps (padL key.data.toList 0x36) ((padL key.data.toList 0x36).length / 64)) k1 (padL key.data.toList 0x36).length ++ hcells (Sha.comps (padL key.data.toList 0x5c) ((padL key.data.toList 0x5c).length / 64)) k2 (padL key.data.toList 0x5c).length) → MRep w' w2.heap.size 64 key.data.toList [] from fun w' hB => ⟨_, _, n1, n2, ⟨k1, q1, by simpa using q2, by simpa using hB⟩, ⟨k2, q3, q4, by simpa using hB⟩⟩)
  generalize hcells (Sha.comps (padL key.data.toList 0x36) ((padL key.data.toList 0x36).length / 64)) k1 (padL key.data.toList 0x36).length = ci at *
  generalize hcells (Sha.comps (padL key.data.toList 0x5c) ((padL key.data.toList 0x5c).length / 64)) k2 (padL key.data.toList 0x5c).length = co at *
  have hbd := built_mac ci co n1 n2
  have s1 : (Tryd.prog.info? 59).map (·.size) = some ci.length := by rw [infoHash, n1]
  have s2 : (Tryd.prog.info? 59).map (·.size) = some co.length := by rw [infoHash, n2]
  have R1 := hide r1
  have R2 := hide r2
  have S1 := hide s1
  have S2 := hide s2
  clear hk1 hH1 hr1 hb1 hb2 hB1 hB2 q1 q2 q3 q4 r1 r2 n1 n2 s1 s2 HP1 HP2 k1 k2
  have HBD := hide hbd
  clear hbd
  go_wp2
  rename_i K0 back
  refine wp_letter2 3 4 (fun A h3 h4 hz hd => ?_)
  have a3 : A.eval (.tmp 3) = .pointer (some ⟨b1, 0, none⟩) := h3
  have a4 : A.eval (.tmp 4) = .pointer (some ⟨b2, 0, none⟩) := h4
  have az : A.tmps.size = 22 := hz
  have ad : A.defers = [] := hd
  clear h3 h4 hz hd
  refine wp_region_any (by kernel_rfl) ?_
  change wpAny _ _ _ _ _ _ _ (World.drew _)
  refine wpAny_take (i := 0) (v := .pointer (some ⟨b1, 0, none⟩)) rfl (by kernel_rfl) (by kernel_rfl) (by kernel_rfl) (fun _ _ _ h => h) (Or.inl ⟨by rfl, fun w => ?_⟩) ?_
  · rw [run_move (.tmp 3) rfl, a3]
  change wpAny _ _ _ _ _ _ (Act.put _ (some 14) _) _
  have b14 : (A.put (some 14) (.pointer (some ⟨b1, 0, none⟩))).eval (.tmp 14) = .pointer (some ⟨b1, 0, none⟩) := Act.eval_same _ _ _ (by rw [az]; decide)
  have b4 : (A.put (some 14) (.pointer (some ⟨b1, 0, none⟩))).eval (.tmp 4) = .pointer (some ⟨b2, 0, none⟩) := (Act.eval_other _ _ _ _ (by decide)).trans a4
  have bz : (A.put (some 14) (.pointer (some ⟨b1, 0, none⟩))).tmps.size = 22 := by rw [Act.put_size, az]
  have bd : (A.put (some 14) (.pointer (some ⟨b1, 0, none⟩))).defers = [] := by rw [Act.put_defers', ad]
  generalize A.put (some 14) (.pointer (some ⟨b1, 0, none⟩)) = B at *
  clear a3 a4 az ad A
  refine wpAny_take (i := 1) (v := .pointer (some ⟨b1, 0, none⟩)) rfl (by kernel_rfl) (by kernel_rfl) (by kernel_rfl) (fun _ _ _ h => h) (Or.inl ⟨by rfl, fun w => ?_⟩) ?_
  · exact run_nilCheck (.tmp 14) _ rfl b14
  change wpAny _ _ _ _ _ _ (Act.put _ (some 15) _) _
  have c15 : (B.put (some 15) (.pointer (some ⟨b1, 0, none⟩))).eval (.tmp 15) = .pointer (some ⟨b1, 0, none⟩) := Act.eval_same _ _ _ (by rw [bz]; decide)
  have c4 : (B.put (some 15) (.pointer (some ⟨b1, 0, none⟩))).eval (.tmp 4) = .pointer (some ⟨b2, 0, none⟩) := (Act.eval_other _ _ _ _ (by decide)).trans b4
  have cz : (B.put (some 15) (.pointer (some ⟨b1, 0, none⟩))).tmps.size = 22 := by rw [Act.put_size, bz]
  have cd : (B.put (some 15) (.pointer (some ⟨b1, 0, none⟩))).defers = [] := by rw [Act.put_defers', bd]
  generalize B.put (some 15) (.pointer (some ⟨b1, 0, none⟩)) = C at *
  clear b14 b4 bz bd B
  refine wpAny_take (i := 3) (v := .pointer (some ⟨b2, 0, none⟩)) rfl (by kernel_rfl) (by kernel_rfl) (by kernel_rfl) (fun _ _ _ h => h) (Or.inl ⟨by rfl, fun w => ?_⟩) ?_
  · rw [run_move (.tmp 4) rfl, c4]
  change wpAny _ _ _ _ _ _ (Act.put _ (some 17) _) _
  have d15 : (C.put (some 17) (.pointer (some ⟨b2, 0, none⟩))).eval (.tmp 15) = .pointer (some ⟨b1, 0, none⟩) := (Act.eval_other _ _ _ _ (by decide)).trans c15
  have d17 : (C.put (some 17) (.pointer (some ⟨b2, 0, none⟩))).eval (.tmp 17) = .pointer (some ⟨b2, 0, none⟩) := Act.eval_same _ _ _ (by rw [cz]; decide)
  have dz : (C.put (some 17) (.pointer (some ⟨b2, 0, none⟩))).tmps.size = 22 := by rw [Act.put_size, cz]
  have dd : (C.put (some 17) (.pointer (some ⟨b2, 0, none⟩))).defers = [] := by rw [Act.put_defers', cd]
  generalize C.put (some 17) (.pointer (some ⟨b2, 0, none⟩)) = D at *
  clear c15 c4 cz cd C
  refine wpAny_take (i := 4) (v := .pointer (some ⟨b2, 0, none⟩)) rfl (by kernel_rfl) (by kernel_rfl) (by kernel_rfl) (fun _ _ _ h => h) (Or.inl ⟨by rfl, fun w => ?_⟩) ?_
  · exact run_nilCheck (.tmp 17) _ rfl d17
  change wpAny _ _ _ _ _ _ (Act.put _ (some 18) _) _
  have e15 : (D.put (some 18) (.pointer (some ⟨b2, 0, none⟩))).eval (.tmp 15) = .pointer (some ⟨b1, 0, none⟩) := (Act.eval_other _ _ _ _ (by decide)).trans d15
  have e18 : (D.put (some 18) (.pointer (some ⟨b2, 0, none⟩))).eval (.tmp 18) = .pointer (some ⟨b2, 0, none⟩) := Act.eval_same _ _ _ (by rw [dz]; decide)
  have ez : (D.put (some 18) (.pointer (some ⟨b2, 0, none⟩))).tmps.size = 22 := by rw [Act.put_size, dz]
  have ed : (D.put (some 18) (.pointer (some ⟨b2, 0, none⟩))).defers = [] := by rw [Act.put_defers', dd]
  generalize D.put (some 18) (.pointer (some ⟨b2, 0, none⟩)) = E at *
  clear d15 d17 dz dd D
  refine wpAny_ready (rs := [2, 5]) (by kernel_rfl) (by simp) ?_
  refine AllReady.cons rfl (fun K hK => ?_) (AllReady.cons rfl (fun K hK => ?_) AllReady.nil)
  · refine step_load_mid rfl 59 (.tmp 15) rfl b1 0 e15 ci _ R1.out Tryd.underlying59 rfl S1.out ?_
    refine hK _ _ ?_
    clear hK K
    change wpAny _ _ _ _ _ _ (Act.put _ (some 16) _) _
    have f16 : (E.put (some 16) (.agg ci.toArray)).eval (.tmp 16) = .agg ci.toArray := Act.eval_same _ _ _ (by rw [ez]; decide)
    have f18 : (E.put (some 16) (.agg ci.toArray)).eval (.tmp 18) = .pointer (some ⟨b2, 0, none⟩) := (Act.eval_other _ _ _ _ (by decide)).trans e18
    have fz : (E.put (some 16) (.agg ci.toArray)).tmps.size = 22 := by rw [Act.put_size, ez]
    have fd : (E.put (some 16) (.agg ci.toArray)).defers = [] := by rw [Act.put_defers', ed]
    generalize E.put (some 16) (.agg ci.toArray) = F at *
    clear e15 e18 ez ed E
    refine wpAny_ready (rs := [5]) (by kernel_rfl) (by simp) ?_
    refine AllReady.cons rfl (fun K hK => ?_) AllReady.nil
    refine step_load_mid rfl 59 (.tmp 18) rfl b2 0 f18 co _ R2.out Tryd.underlying59 rfl S2.out ?_
    refine hK _ _ ?_
    clear hK K
    change wpAny _ _ _ _ _ _ (Act.put _ (some 19) _) _
    have g16 : (F.put (some 19) (.agg co.toArray)).eval (.tmp 16) = .agg ci.toArray := (Act.eval_other _ _ _ _ (by decide)).trans f16
    have g19 : (F.put (some 19) (.agg co.toArray)).eval (.tmp 19) = .agg co.toArray := Act.eval_same _ _ _ (by rw [fz]; decide)
    have gz : (F.put (some 19) (.agg co.toArray)).tmps.size = 22 := by rw [Act.put_size, fz]
    have gd : (F.put (some 19) (.agg co.toArray)).defers = [] := by rw [Act.put_defers', fd]
    generalize F.put (some 19) (.agg co.toArray) = G at *
    clear f16 f18 fz fd F
    refine wpAny_ready (rs := [6]) (by kernel_rfl) (by simp) ?_
    refine AllReady.cons rfl (fun K hK => ?_) AllReady.nil
    refine step_run rfl (.agg (ci ++ co).toArray) _ (run_build2 64 (.tmp 16) (.tmp 19) rfl g16 g19 (HBD.out _)) ?_
    refine hK _ _ ?_
    clear hK K
    change wpAny _ _ _ _ _ _ (Act.put _ (some 20) _) _
    have i20 : (G.put (some 20) (.agg (ci ++ co).toArray)).eval (.tmp 20) = .agg (ci ++ co).toArray := Act.eval_same _ _ _ (by rw [gz]; decide)
    have iz : (G.put (some 20) (.agg (ci ++ co).toArray)).tmps.size = 22 := by rw [Act.put_size, gz]
    have id : (G.put (some 20) (.agg (ci ++ co).toArray)).defers = [] := by rw [Act.put_defers', gd]
    generalize G.put (some 20) (.agg (ci ++ co).toArray) = I at *
    clear g16 g19 gz gd G
    refine wpAny_ready (rs := [7]) (by kernel_rfl) (by simp) ?_
    refine AllReady.cons rfl (fun K hK => ?_) AllReady.nil
    refine step_run rfl (.pointer (some ⟨w2.heap.size, 0, none⟩)) (w2.drew.alloc (.cells (ci ++ co).toArray 64)) (run_box2 64 (.tmp 20) rfl i20) ?_
    refine hK _ _ ?_
    clear hK K
    change wpAny _ _ _ _ _ _ (Act.put _ (some 21) _) _
    have j21 : (I.put (some 21) (.pointer (some ⟨w2.heap.size, 0, none⟩))).eval (.tmp 21) = .pointer (some ⟨w2.heap.size, 0, none⟩) := Act.eval_same _ _ _ (by rw [iz]; decide)
    have jz : (I.put (some 21) (.pointer (some ⟨w2.heap.size, 0, none⟩))).tmps.size = 22 := by rw [Act.put_size, iz]
    have jd : (I.put (some 21) (.pointer (some ⟨w2.heap.size, 0, none⟩))).defers = [] := by rw [Act.put_defers', id]
    generalize I.put (some 21) (.pointer (some ⟨w2.heap.size, 0, none⟩)) = J at *
    clear i20 iz id I
    refine wpAny_ready (rs := [8]) (by kernel_rfl) (by simp) ?_
    refine AllReady.cons rfl (fun K hK => ?_) AllReady.nil
    refine step_run rfl (.pointer (some ⟨w2.heap.size, 0, none⟩)) _ (run_assign (.tmp 21) rfl j21) ?_
    refine hK _ _ ?_
    clear hK K
    change wpAny _ _ _ _ _ _ (Act.put _ (some 2) _) _
    have u2 : (J.put (some 2) (.pointer (some ⟨w2.heap.size, 0, none⟩))).eval (.tmp 2) = .pointer (some ⟨w2.heap.size, 0, none⟩) := Act.eval_same _ _ _ (by rw [jz]; decide)
    have uz : (J.put (some 2) (.pointer (some ⟨w2.heap.size, 0, none⟩))).tmps.size = 22 := by rw [Act.put_size, jz]
    have ud : (J.put (some 2) (.pointer (some ⟨w2.heap.size, 0, none⟩))).defers = [] := by rw [Act.put_defers', jd]
    generalize J.put (some 2) (.pointer (some ⟨w2.heap.size, 0, none⟩)) = U at *
    refine wpAny_done (by kernel_rfl) ?_ _
    refine back _ _ (wp_ret ?_)
    refine bodyPost_ret (results_tmp rfl _ _ _) ud ?_
    refine ⟨w2.heap.size, congrArg Ending.returned u2, hge, HM.out _ (Blk.new rfl rfl), HB.out.drew.alloc hge _⟩
  · refine step_load_mid rfl 59 (.tmp 18) rfl b2 0 e18 co _ R2.out Tryd.underlying59 rfl S2.out ?_
    refine hK _ _ ?_
    clear hK K
    change wpAny _ _ _ _ _ _ (Act.put _ (some 19) _) _
    have f19 : (E.put (some 19) (.agg co.toArray)).eval (.tmp 19) = .agg co.toArray := Act.eval_same _ _ _ (by rw [ez]; decide)
    have f15 : (E.put (some 19) (.agg co.toArray)).eval (.tmp 15) = .pointer (some ⟨b1, 0, none⟩) := (Act.eval_other _ _ _ _ (by decide)).trans e15
    have fz : (E.put (some 19) (.agg co.toArray)).tmps.size = 22 := by rw [Act.put_size, ez]
    have fd : (E.put (some 19) (.agg co.toArray)).defers = [] := by rw [Act.put_defers', ed]
    generalize E.put (some 19) (.agg co.toArray) = F at *
    clear e15 e18 ez ed E
    refine wpAny_ready (rs := [2]) (by kernel_rfl) (by simp) ?_
    refine AllReady.cons rfl (fun K hK => ?_) AllReady.nil
    refine step_load_mid rfl 59 (.tmp 15) rfl b1 0 f15 ci _ R1.out Tryd.underlying59 rfl S1.out ?_
    refine hK _ _ ?_
    clear hK K
    change wpAny _ _ _ _ _ _ (Act.put _ (some 16) _) _
    have g19 : (F.put (some 16) (.agg ci.toArray)).eval (.tmp 19) = .agg co.toArray := (Act.eval_other _ _ _ _ (by decide)).trans f19
    have g16 : (F.put (some 16) (.agg ci.toArray)).eval (.tmp 16) = .agg ci.toArray := Act.eval_same _ _ _ (by rw [fz]; decide)
    have gz : (F.put (some 16) (.agg ci.toArray)).tmps.size = 22 := by rw [Act.put_size, fz]
    have gd : (F.put (some 16) (.agg ci.toArray)).defers = [] := by rw [Act.put_defers', fd]
    generalize F.put (some 16) (.agg ci.toArray) = G at *
    clear f19 f15 fz fd F
    refine wpAny_ready (rs := [6]) (by kernel_rfl) (by simp) ?_
    refine AllReady.cons rfl (fun K hK => ?_) AllReady.nil
    refine step_run rfl (.agg (ci ++ co).toArray) _ (run_build2 64 (.tmp 16) (.tmp 19) rfl g16 g19 (HBD.out _)) ?_
    refine hK _ _ ?_
    clear hK K
    change wpAny _ _ _ _ _ _ (Act.put _ (some 20) _) _
    have i20 : (G.put (some 20) (.agg (ci ++ co).toArray)).eval (.tmp 20) = .agg (ci ++ co).toArray := Act.eval_same _ _ _ (by rw [gz]; decide)
    have iz : (G.put (some 20) (.agg (ci ++ co).toArray)).tmps.size = 22 := by rw [Act.put_size, gz]
    have id : (G.put (some 20) (.agg (ci ++ co).toArray)).defers = [] := by rw [Act.put_defers', gd]
    generalize G.put (some 20) (.agg (ci ++ co).toArray) = I at *
    clear g16 g19 gz gd G
    refine wpAny_ready (rs := [7]) (by kernel_rfl) (by simp) ?_
    refine AllReady.cons rfl (fun K hK => ?_) AllReady.nil
    refine step_run rfl (.pointer (some ⟨w2.heap.size, 0, none⟩)) (w2.drew.alloc (.cells (ci ++ co).toArray 64)) (run_box2 64 (.tmp 20) rfl i20) ?_
    refine hK _ _ ?_
    clear hK K
    change wpAny _ _ _ _ _ _ (Act.put _ (some 21) _) _
    have j21 : (I.put (some 21) (.pointer (some ⟨w2.heap.size, 0, none⟩))).eval (.tmp 21) = .pointer (some ⟨w2.heap.size, 0, none⟩) := Act.eval_same _ _ _ (by rw [iz]; decide)
    have jz : (I.put (some 21) (.pointer (some ⟨w2.heap.size, 0, none⟩))).tmps.size = 22 := by rw [Act.put_size, iz]
    have jd : (I.put (some 21) (.pointer (some ⟨w2.heap.size, 0, none⟩))).defers = [] := by rw [Act.put_defers', id]
    generalize I.put (some 21) (.pointer (some ⟨w2.heap.size, 0, none⟩)) = J at *
    clear i20 iz id I
    refine wpAny_ready (rs := [8]) (by kernel_rfl) (by simp) ?_
    refine AllReady.cons rfl (fun K hK => ?_) AllReady.nil
    refine step_run rfl (.pointer (some ⟨w2.heap.size, 0, none⟩)) _ (run_assign (.tmp 21) rfl j21) ?_
    refine hK _ _ ?_
    clear hK K
    change wpAny _ _ _ _ _ _ (Act.put _ (some 2) _) _
    have u2 : (J.put (some 2) (.pointer (some ⟨w2.heap.size, 0, none⟩))).eval (.tmp 2) = .pointer (some ⟨w2.heap.size, 0, none⟩) := Act.eval_same _ _ _ (by rw [jz]; decide)
    have uz : (J.put (some 2) (.pointer (some ⟨w2.heap.size, 0, none⟩))).tmps.size = 22 := by rw [Act.put_size, jz]
    have ud : (J.put (some 2) (.pointer (some ⟨w2.heap.size, 0, none⟩))).defers = [] := by rw [Act.put_defers', jd]
    generalize J.put (some 2) (.pointer (some ⟨w2.heap.size, 0, none⟩)) = U at *
    refine wpAny_done (by kernel_rfl) ?_ _
    refine back _ _ (wp_ret ?_)
    refine bodyPost_ret (results_tmp rfl _ _ _) ud ?_
    refine ⟨w2.heap.size, congrArg Ending.returned u2, hge, HM.out _ (Blk.new rfl rfl), HB.out.drew.alloc hge _⟩
set_option maxRecDepth 100000 in
set_option maxHeartbeats 800000 in
theorem kbegin_long (key0 : ByteArray) (w0 : World) (hl0 : 64 < key0.size) (hlb : key0.size < 2 ^ 59) (hk0 : KTab w0) (hH0 : HTab w0) (h20 : 2 ≤ w0.heap.size) :
    Calls Tryd.prog 24 #[.string key0] w0 fun e w' => ∃ b, e = .returned (.pointer (some ⟨b, 0, none⟩)) ∧ w0.heap.size ≤ b ∧ MRep w' b 64 key0.data.toList [] ∧ Below w0.heap.size w0 w' := by
  have hkl : key0.data.toList.length = key0.size := by rw [Array.length_toList]; rfl
  have hp1 := padL_long key0.data.toList 0x36 (by omega)
  have hp2 := padL_long key0.data.toList 0x5c (by omega)
  have href := shaSum_any key0 w0 hlb hk0 hH0 h20
  have hsl : (Sha.sum key0.data.toList).length = 32 := Sha.sum_len _
  generalize Sha.sum key0.data.toList = sm at *
  obtain ⟨key, hkey⟩ : ∃ key : ByteArray, key = ⟨sm.toArray⟩ := ⟨_, rfl⟩
  have hks : key.data.toList = sm := by rw [hkey]
  have hl : key.size ≤ 64 := by rw [hkey]; show sm.toArray.size ≤ 64; rw [List.size_toArray]; omega
  rw [← hkey] at href
  rw [← hks] at hp1 hp2
  have HP1 := hide hp1
  have HP2 := hide hp2
  have HREF := hide href
  clear hp1 hp2 hkl href hks hkey hsl
  have jl : (64 : Int) < (key0.size : Int) := by omega
  go_enter Tryd.func24, Tryd.ntmps24
  go_wp2_with fail
  refine HREF.out.mono ?_
  rintro e w ⟨rfl, hb0⟩
  have hk := hk0.below hb0 h20
  have hH := hH0.below hb0 h20
  have h2 : 2 ≤ w.heap.size := Nat.le_trans h20 hb0.size
  have HB0 := hide hb0
  clear hb0 hk0 hH0 HREF
  go_wp2_with fail
  refine (begun_any key 0x36 _ hl hk hH h2).mono ?_
  rintro e w1 ⟨b1, rfl, hge1, hr1, hb1⟩
  have hk1 := hk.below hb1 h2
  have hH1 := hH.below hb1 h2
  have hs1 := hb1.size
  rw [← HP1.out] at hr1
  have hl1 := hr1.lt
  clear hk hH
  go_wp2_with fail
  refine (begun_any key 0x5c _ hl hk1 hH1 (by omega)).mono ?_
  rintro e w2 ⟨b2, rfl, hge2, hr2, hb2⟩
  have hr12 := hr1.below hb2 hl1
  rw [← HP2.out] at hr2
  have HB := hide (HB0.out.trans ((hb1.trans (hb2.mono hs1)).mono HB0.out.size))
  have hge : w0.heap.size ≤ w2.heap.size := by have := hb2.size; have := HB0.out.size; omega
  obtain ⟨k1, q1, q2, hB1⟩ := hr12
  obtain ⟨k2, q3, q4, hB2⟩ := hr2
  have r1 := hcells_range q1 hB1
  have r2 := hcells_range q3 hB2
  have n1 := hcells_len (Sha.comps (padL key0.data.toList 0x36) ((padL key0.data.toList 0x36).length / 64)) k1 (padL key0.data.toList 0x36).length q1
  have n2 := hcells_len (Sha.comps (padL key0.data.toList 0x5c) ((padL key0.data.toList 0x5c).length / 64)) k2 (padL key0.data.toList 0x5c).length q3
  have HM := hide (show ∀ w', Blk w' w2.heap.size 64 (hcells (Sha.comps (padL key0.data.toList 0x36) ((padL key0.data.toList 0x36).length / 64)) k1 (padL key0.data.toList 0x36).length ++ hcells (Sha.comps (padL key0.data.toList 0x5c) ((padL key0.data.toList 0x5c).length / 64)) k2 (padL key0.data.toList 0x5c).length) → MRep w' w2.heap.size 64 key0.data.toList [] from fun w' hB => ⟨_, _, n1, n2, ⟨k1, q1, by simpa using q2, by simpa using hB⟩, ⟨k2, q3, q4, by simpa using hB⟩⟩)
  generalize hcells (Sha.comps (padL key0.data.toList 0x36) ((padL key0.data.toList 0x36).length / 64)) k1 (padL key0.data.toList 0x36).length = ci at *
  generalize hcells (Sha.comps (padL key0.data.toList 0x5c) ((padL key0.data.toList 0x5c).length / 64)) k2 (padL key0.data.toList 0x5c).length = co at *
  have hbd := built_mac ci co n1 n2
  have s1 : (Tryd.prog.info? 59).map (·.size) = some ci.length := by rw [infoHash, n1]
  have s2 : (Tryd.prog.info? 59).map (·.size) = some co.length := by rw [infoHash, n2]
  have R1 := hide r1
  have R2 := hide r2
  have S1 := hide s1
  have S2 := hide s2
  clear hk1 hH1 hr1 hb1 hb2 hB1 hB2 q1 q2 q3 q4 r1 r2 n1 n2 s1 s2 HP1 HP2 k1 k2
  have HBD := hide hbd
  clear hbd
  go_wp2
  rename_i K0 back
  refine wp_letter2 3 4 (fun A h3 h4 hz hd => ?_)
  have a3 : A.eval (.tmp 3) = .pointer (some ⟨b1, 0, none⟩) := h3
  have a4 : A.eval (.tmp 4) = .pointer (some ⟨b2, 0, none⟩) := h4
  have az : A.tmps.size = 22 := hz
  have ad : A.defers = [] := hd
  clear h3 h4 hz hd
  refine wp_region_any (by kernel_rfl) ?_
  change wpAny _ _ _ _ _ _ _ (World.drew _)
  refine wpAny_take (i := 0) (v := .pointer (some ⟨b1, 0, none⟩)) rfl (by kernel_rfl) (by kernel_rfl) (by kernel_rfl) (fun _ _ _ h => h) (Or.inl ⟨by rfl, fun w => ?_⟩) ?_
  · rw [run_move (.tmp 3) rfl, a3]
  change wpAny _ _ _ _ _ _ (Act.put _ (some 14) _) _
  have b14 : (A.put (some 14) (.pointer (some ⟨b1, 0, none⟩))).eval (.tmp 14) = .pointer (some ⟨b1, 0, none⟩) := Act.eval_same _ _ _ (by rw [az]; decide)
  have b4 : (A.put (some 14) (.pointer (some ⟨b1, 0, none⟩))).eval (.tmp 4) = .pointer (some ⟨b2, 0, none⟩) := (Act.eval_other _ _ _ _ (by decide)).trans a4
  have bz : (A.put (some 14) (.pointer (some ⟨b1, 0, none⟩))).tmps.size = 22 := by rw [Act.put_size, az]
  have bd : (A.put (some 14) (.pointer (some ⟨b1, 0, none⟩))).defers = [] := by rw [Act.put_defers', ad]
  generalize A.put (some 14) (.pointer (some ⟨b1, 0, none⟩)) = B at *
  clear a3 a4 az ad A
  refine wpAny_take (i := 1) (v := .pointer (some ⟨b1, 0, none⟩)) rfl (by kernel_rfl) (by kernel_rfl) (by kernel_rfl) (fun _ _ _ h => h) (Or.inl ⟨by rfl, fun w => ?_⟩) ?_
  · exact run_nilCheck (.tmp 14) _ rfl b14
  change wpAny _ _ _ _ _ _ (Act.put _ (some 15) _) _
  have c15 : (B.put (some 15) (.pointer (some ⟨b1, 0, none⟩))).eval (.tmp 15) = .pointer (some ⟨b1, 0, none⟩) := Act.eval_same _ _ _ (by rw [bz]; decide)
  have c4 : (B.put (some 15) (.pointer (some ⟨b1, 0, none⟩))).eval (.tmp 4) = .pointer (some ⟨b2, 0, none⟩) := (Act.eval_other _ _ _ _ (by decide)).trans b4
  have cz : (B.put (some 15) (.pointer (some ⟨b1, 0, none⟩))).tmps.size = 22 := by rw [Act.put_size, bz]
  have cd : (B.put (some 15) (.pointer (some ⟨b1, 0, none⟩))).defers = [] := by rw [Act.put_defers', bd]
  generalize B.put (some 15) (.pointer (some ⟨b1, 0, none⟩)) = C at *
  clear b14 b4 bz bd B
  refine wpAny_take (i := 3) (v := .pointer (some ⟨b2, 0, none⟩)) rfl (by kernel_rfl) (by kernel_rfl) (by kernel_rfl) (fun _ _ _ h => h) (Or.inl ⟨by rfl, fun w => ?_⟩) ?_
  · rw [run_move (.tmp 4) rfl, c4]
  change wpAny _ _ _ _ _ _ (Act.put _ (some 17) _) _
  have d15 : (C.put (some 17) (.pointer (some ⟨b2, 0, none⟩))).eval (.tmp 15) = .pointer (some ⟨b1, 0, none⟩) := (Act.eval_other _ _ _ _ (by decide)).trans c15
  have d17 : (C.put (some 17) (.pointer (some ⟨b2, 0, none⟩))).eval (.tmp 17) = .pointer (some ⟨b2, 0, none⟩) := Act.eval_same _ _ _ (by rw [cz]; decide)
  have dz : (C.put (some 17) (.pointer (some ⟨b2, 0, none⟩))).tmps.size = 22 := by rw [Act.put_size, cz]
  have dd : (C.put (some 17) (.pointer (some ⟨b2, 0, none⟩))).defers = [] := by rw [Act.put_defers', cd]
  generalize C.put (some 17) (.pointer (some ⟨b2, 0, none⟩)) = D at *
  clear c15 c4 cz cd C
  refine wpAny_take (i := 4) (v := .pointer (some ⟨b2, 0, none⟩)) rfl (by kernel_rfl) (by kernel_rfl) (by kernel_rfl) (fun _ _ _ h => h) (Or.inl ⟨by rfl, fun w => ?_⟩) ?_
  · exact run_nilCheck (.tmp 17) _ rfl d17
  change wpAny _ _ _ _ _ _ (Act.put _ (some 18) _) _
  have e15 : (D.put (some 18) (.pointer (some ⟨b2, 0, none⟩))).eval (.tmp 15) = .pointer (some ⟨b1, 0, none⟩) := (Act.eval_other _ _ _ _ (by decide)).trans d15
  have e18 : (D.put (some 18) (.pointer (some ⟨b2, 0, none⟩))).eval (.tmp 18) = .pointer (some ⟨b2, 0, none⟩) := Act.eval_same _ _ _ (by rw [dz]; decide)
  have ez : (D.put (some 18) (.pointer (some ⟨b2, 0, none⟩))).tmps.size = 22 := by rw [Act.put_size, dz]
  have ed : (D.put (some 18) (.pointer (some ⟨b2, 0, none⟩))).defers = [] := by rw [Act.put_defers', dd]
  generalize D.put (some 18) (.pointer (some ⟨b2, 0, none⟩)) = E at *
  clear d15 d17 dz dd D
  refine wpAny_ready (rs := [2, 5]) (by kernel_rfl) (by simp) ?_
  refine AllReady.cons rfl (fun K hK => ?_) (AllReady.cons rfl (fun K hK => ?_) AllReady.nil)
  · refine step_load_mid rfl 59 (.tmp 15) rfl b1 0 e15 ci _ R1.out Tryd.underlying59 rfl S1.out ?_
    refine hK _ _ ?_
    clear hK K
    change wpAny _ _ _ _ _ _ (Act.put _ (some 16) _) _
    have f16 : (E.put (some 16) (.agg ci.toArray)).eval (.tmp 16) = .agg ci.toArray := Act.eval_same _ _ _ (by rw [ez]; decide)
    have f18 : (E.put (some 16) (.agg ci.toArray)).eval (.tmp 18) = .pointer (some ⟨b2, 0, none⟩) := (Act.eval_other _ _ _ _ (by decide)).trans e18
    have fz : (E.put (some 16) (.agg ci.toArray)).tmps.size = 22 := by rw [Act.put_size, ez]
    have fd : (E.put (some 16) (.agg ci.toArray)).defers = [] := by rw [Act.put_defers', ed]
    generalize E.put (some 16) (.agg ci.toArray) = F at *
    clear e15 e18 ez ed E
    refine wpAny_ready (rs := [5]) (by kernel_rfl) (by simp) ?_
    refine AllReady.cons rfl (fun K hK => ?_) AllReady.nil
    refine step_load_mid rfl 59 (.tmp 18) rfl b2 0 f18 co _ R2.out Tryd.underlying59 rfl S2.out ?_
    refine hK _ _ ?_
    clear hK K
    change wpAny _ _ _ _ _ _ (Act.put _ (some 19) _) _
    have g16 : (F.put (some 19) (.agg co.toArray)).eval (.tmp 16) = .agg ci.toArray := (Act.eval_other _ _ _ _ (by decide)).trans f16
    have g19 : (F.put (some 19) (.agg co.toArray)).eval (.tmp 19) = .agg co.toArray := Act.eval_same _ _ _ (by rw [fz]; decide)
    have gz : (F.put (some 19) (.agg co.toArray)).tmps.size = 22 := by rw [Act.put_size, fz]
    have gd : (F.put (some 19) (.agg co.toArray)).defers = [] := by rw [Act.put_defers', fd]
    generalize F.put (some 19) (.agg co.toArray) = G at *
    clear f16 f18 fz fd F
    refine wpAny_ready (rs := [6]) (by kernel_rfl) (by simp) ?_
    refine AllReady.cons rfl (fun K hK => ?_) AllReady.nil
    refine step_run rfl (.agg (ci ++ co).toArray) _ (run_build2 64 (.tmp 16) (.tmp 19) rfl g16 g19 (HBD.out _)) ?_
    refine hK _ _ ?_
    clear hK K
    change wpAny _ _ _ _ _ _ (Act.put _ (some 20) _) _
    have i20 : (G.put (some 20) (.agg (ci ++ co).toArray)).eval (.tmp 20) = .agg (ci ++ co).toArray := Act.eval_same _ _ _ (by rw [gz]; decide)
    have iz : (G.put (some 20) (.agg (ci ++ co).toArray)).tmps.size = 22 := by rw [Act.put_size, gz]
    have id : (G.put (some 20) (.agg (ci ++ co).toArray)).defers = [] := by rw [Act.put_defers', gd]
    generalize G.put (some 20) (.agg (ci ++ co).toArray) = I at *
    clear g16 g19 gz gd G
    refine wpAny_ready (rs := [7]) (by kernel_rfl) (by simp) ?_
    refine AllReady.cons rfl (fun K hK => ?_) AllReady.nil
    refine step_run rfl (.pointer (some ⟨w2.heap.size, 0, none⟩)) (w2.drew.alloc (.cells (ci ++ co).toArray 64)) (run_box2 64 (.tmp 20) rfl i20) ?_
    refine hK _ _ ?_
    clear hK K
    change wpAny _ _ _ _ _ _ (Act.put _ (some 21) _) _
    have j21 : (I.put (some 21) (.pointer (some ⟨w2.heap.size, 0, none⟩))).eval (.tmp 21) = .pointer (some ⟨w2.heap.size, 0, none⟩) := Act.eval_same _ _ _ (by rw [iz]; decide)
    have jz : (I.put (some 21) (.pointer (some ⟨w2.heap.size, 0, none⟩))).tmps.size = 22 := by rw [Act.put_size, iz]
    have jd : (I.put (some 21) (.pointer (some ⟨w2.heap.size, 0, none⟩))).defers = [] := by rw [Act.put_defers', id]
    generalize I.put (some 21) (.pointer (some ⟨w2.heap.size, 0, none⟩)) = J at *
    clear i20 iz id I
    refine wpAny_ready (rs := [8]) (by kernel_rfl) (by simp) ?_
    refine AllReady.cons rfl (fun K hK => ?_) AllReady.nil
    refine step_run rfl (.pointer (some ⟨w2.heap.size, 0, none⟩)) _ (run_assign (.tmp 21) rfl j21) ?_
    refine hK _ _ ?_
    clear hK K
    change wpAny _ _ _ _ _ _ (Act.put _ (some 2) _) _
    have u2 : (J.put (some 2) (.pointer (some ⟨w2.heap.size, 0, none⟩))).eval (.tmp 2) = .pointer (some ⟨w2.heap.size, 0, none⟩) := Act.eval_same _ _ _ (by rw [jz]; decide)
    have uz : (J.put (some 2) (.pointer (some ⟨w2.heap.size, 0, none⟩))).tmps.size = 22 := by rw [Act.put_size, jz]
    have ud : (J.put (some 2) (.pointer (some ⟨w2.heap.size, 0, none⟩))).defers = [] := by rw [Act.put_defers', jd]
    generalize J.put (some 2) (.pointer (some ⟨w2.heap.size, 0, none⟩)) = U at *
    refine wpAny_done (by kernel_rfl) ?_ _
    refine back _ _ (wp_ret ?_)
    refine bodyPost_ret (results_tmp rfl _ _ _) ud ?_
    refine ⟨w2.heap.size, congrArg Ending.returned u2, hge, HM.out _ (Blk.new rfl rfl), HB.out.drew.alloc hge _⟩
  · refine step_load_mid rfl 59 (.tmp 18) rfl b2 0 e18 co _ R2.out Tryd.underlying59 rfl S2.out ?_
    refine hK _ _ ?_
    clear hK K
    change wpAny _ _ _ _ _ _ (Act.put _ (some 19) _) _
    have f19 : (E.put (some 19) (.agg co.toArray)).eval (.tmp 19) = .agg co.toArray := Act.eval_same _ _ _ (by rw [ez]; decide)
    have f15 : (E.put (some 19) (.agg co.toArray)).eval (.tmp 15) = .pointer (some ⟨b1, 0, none⟩) := (Act.eval_other _ _ _ _ (by decide)).trans e15
    have fz : (E.put (some 19) (.agg co.toArray)).tmps.size = 22 := by rw [Act.put_size, ez]
    have fd : (E.put (some 19) (.agg co.toArray)).defers = [] := by rw [Act.put_defers', ed]
    generalize E.put (some 19) (.agg co.toArray) = F at *
    clear e15 e18 ez ed E
    refine wpAny_ready (rs := [2]) (by kernel_rfl) (by simp) ?_
    refine AllReady.cons rfl (fun K hK => ?_) AllReady.nil
    refine step_load_mid rfl 59 (.tmp 15) rfl b1 0 f15 ci _ R1.out Tryd.underlying59 rfl S1.out ?_
    refine hK _ _ ?_
    clear hK K
    change wpAny _ _ _ _ _ _ (Act.put _ (some 16) _) _
    have g19 : (F.put (some 16) (.agg ci.toArray)).eval (.tmp 19) = .agg co.toArray := (Act.eval_other _ _ _ _ (by decide)).trans f19
    have g16 : (F.put (some 16) (.agg ci.toArray)).eval (.tmp 16) = .agg ci.toArray := Act.eval_same _ _ _ (by rw [fz]; decide)
    have gz : (F.put (some 16) (.agg ci.toArray)).tmps.size = 22 := by rw [Act.put_size, fz]
    have gd : (F.put (some 16) (.agg ci.toArray)).defers = [] := by rw [Act.put_defers', fd]
    generalize F.put (some 16) (.agg ci.toArray) = G at *
    clear f19 f15 fz fd F
    refine wpAny_ready (rs := [6]) (by kernel_rfl) (by simp) ?_
    refine AllReady.cons rfl (fun K hK => ?_) AllReady.nil
    refine step_run rfl (.agg (ci ++ co).toArray) _ (run_build2 64 (.tmp 16) (.tmp 19) rfl g16 g19 (HBD.out _)) ?_
    refine hK _ _ ?_
    clear hK K
    change wpAny _ _ _ _ _ _ (Act.put _ (some 20) _) _
    have i20 : (G.put (some 20) (.agg (ci ++ co).toArray)).eval (.tmp 20) = .agg (ci ++ co).toArray := Act.eval_same _ _ _ (by rw [gz]; decide)
    have iz : (G.put (some 20) (.agg (ci ++ co).toArray)).tmps.size = 22 := by rw [Act.put_size, gz]
    have id : (G.put (some 20) (.agg (ci ++ co).toArray)).defers = [] := by rw [Act.put_defers', gd]
    generalize G.put (some 20) (.agg (ci ++ co).toArray) = I at *
    clear g16 g19 gz gd G
    refine wpAny_ready (rs := [7]) (by kernel_rfl) (by simp) ?_
    refine AllReady.cons rfl (fun K hK => ?_) AllReady.nil
    refine step_run rfl (.pointer (some ⟨w2.heap.size, 0, none⟩)) (w2.drew.alloc (.cells (ci ++ co).toArray 64)) (run_box2 64 (.tmp 20) rfl i20) ?_
    refine hK _ _ ?_
    clear hK K
    change wpAny _ _ _ _ _ _ (Act.put _ (some 21) _) _
    have j21 : (I.put (some 21) (.pointer (some ⟨w2.heap.size, 0, none⟩))).eval (.tmp 21) = .pointer (some ⟨w2.heap.size, 0, none⟩) := Act.eval_same _ _ _ (by rw [iz]; decide)
    have jz : (I.put (some 21) (.pointer (some ⟨w2.heap.size, 0, none⟩))).tmps.size = 22 := by rw [Act.put_size, iz]
    have jd : (I.put (some 21) (.pointer (some ⟨w2.heap.size, 0, none⟩))).defers = [] := by rw [Act.put_defers', id]
    generalize I.put (some 21) (.pointer (some ⟨w2.heap.size, 0, none⟩)) = J at *
    clear i20 iz id I
    refine wpAny_ready (rs := [8]) (by kernel_rfl) (by simp) ?_
    refine AllReady.cons rfl (fun K hK => ?_) AllReady.nil
    refine step_run rfl (.pointer (some ⟨w2.heap.size, 0, none⟩)) _ (run_assign (.tmp 21) rfl j21) ?_
    refine hK _ _ ?_
    clear hK K
    change wpAny _ _ _ _ _ _ (Act.put _ (some 2) _) _
    have u2 : (J.put (some 2) (.pointer (some ⟨w2.heap.size, 0, none⟩))).eval (.tmp 2) = .pointer (some ⟨w2.heap.size, 0, none⟩) := Act.eval_same _ _ _ (by rw [jz]; decide)
    have uz : (J.put (some 2) (.pointer (some ⟨w2.heap.size, 0, none⟩))).tmps.size = 22 := by rw [Act.put_size, jz]
    have ud : (J.put (some 2) (.pointer (some ⟨w2.heap.size, 0, none⟩))).defers = [] := by rw [Act.put_defers', jd]
    generalize J.put (some 2) (.pointer (some ⟨w2.heap.size, 0, none⟩)) = U at *
    refine wpAny_done (by kernel_rfl) ?_ _
    refine back _ _ (wp_ret ?_)
    refine bodyPost_ret (results_tmp rfl _ _ _) ud ?_
    refine ⟨w2.heap.size, congrArg Ending.returned u2, hge, HM.out _ (Blk.new rfl rfl), HB.out.drew.alloc hge _⟩

theorem kbegin_any (key : ByteArray) (w : World) (hl : key.size < 2 ^ 59) (hk : KTab w) (hH : HTab w) (h2 : 2 ≤ w.heap.size) :
    Calls Tryd.prog 24 #[.string key] w fun e w' => ∃ b, e = .returned (.pointer (some ⟨b, 0, none⟩)) ∧ w.heap.size ≤ b ∧ MRep w' b 64 key.data.toList [] ∧ Below w.heap.size w w' := by
  by_cases h : 64 < key.size
  · exact kbegin_long key w h hl hk hH h2
  · exact kbegin_short key w (by omega) hk hH h2
end Go.Proofs.YtpogfcfgbnccjaaDoor
namespace Go.Proofs.YtpogfcfgbnccjaaDoor
open Go.RowKit

theorem MRep.lt' {w : World} {b : Nat} {t : TypeId} {key l : List UInt8} (h : MRep w b t key l) : b < w.heap.size := by
  obtain ⟨_, _, _, _, h, _⟩ := h
  exact h.lt
theorem blk_inj {w : World} {b : Nat} {t : TypeId} {c d : List Value} (h : Blk w b t c) (h' : Blk w b t d) : c = d := by
  unfold Blk at h h'
  rw [h] at h'
  injection h' with e
  injection e with e _ _
  exact congrArg Array.toList e
/-- The mac's two halves are one block. -/
theorem MRep.same {w : World} {b : Nat} {t : TypeId} {key l : List UInt8} (h : MRep w b t key l) : ∃ s k s' k', k.length = 64 ∧ k'.length = 64 ∧
    s = Sha.comps (padL key 0x36 ++ l) ((padL key 0x36 ++ l).length / 64) ∧ k.take ((padL key 0x36 ++ l).length % 64) = (padL key 0x36 ++ l).drop (64 * ((padL key 0x36 ++ l).length / 64)) ∧
    s' = Sha.comps (padL key 0x5c) ((padL key 0x5c).length / 64) ∧ k'.take ((padL key 0x5c).length % 64) = (padL key 0x5c).drop (64 * ((padL key 0x5c).length / 64)) ∧
    Blk w b t (hcells s k (padL key 0x36 ++ l).length ++ hcells s' k' (padL key 0x5c).length) := by
  obtain ⟨ci, co, h1, h2, ⟨k, hk, ht, hB⟩, ⟨k', hk', ht', hB'⟩⟩ := h
  refine ⟨_, k, _, k', hk, hk', rfl, ht, rfl, ht', ?_⟩
  have e : hcells (Sha.comps (padL key 0x36 ++ l) ((padL key 0x36 ++ l).length / 64)) k (padL key 0x36 ++ l).length ++ co = ci ++ hcells (Sha.comps (padL key 0x5c) ((padL key 0x5c).length / 64)) k' (padL key 0x5c).length := by
    simpa using blk_inj hB hB'
  have hl := List.append_inj e (by rw [hcells_len _ _ _ hk, h1])
  rw [← hl.2]
  simpa using hB

set_option maxRecDepth 100000 in
set_option maxHeartbeats 800000 in
theorem kwrite_any (b : Nat) (key l : List UInt8) (s : ByteArray) (w : World) (hn : l.length + s.size < 2 ^ 60) (hb : MRep w b 64 key l) (hk : KTab w) (h2 : 2 ≤ b) :
    Calls Tryd.prog 25 #[.pointer (some ⟨b, 0, none⟩), .string s] w fun e w' => e = .returned (.tuple #[]) ∧ MRep w' b 64 key (l ++ s.data.toList) ∧ w.grownBy w' (some b) := by
  obtain ⟨st, k, st', k', q1, q2, q3, q4, q5, q6, hB⟩ := hb.same
  have hpl := padL_len key 0x36
  have hr : HRep w b 64 [] (hcells st' k' (padL key 0x5c).length) (padL key 0x36 ++ l) := ⟨k, q1, q4, by rw [← q3]; simpa using hB⟩
  have HW := hide (hwrite_any b 64 [] (hcells st' k' (padL key 0x5c).length) (padL key 0x36 ++ l) s w (by rw [List.length_append, hpl]; omega) hr hk h2)
  have HF := hide (show ∀ w', HRep w' b 64 [] (hcells st' k' (padL key 0x5c).length) (padL key 0x36 ++ l ++ s.data.toList) → MRep w' b 64 key (l ++ s.data.toList) from fun w' h => by
    obtain ⟨kk, r1, r2, r3⟩ := h
    have hcl := hcells_len (Sha.comps (padL key 0x36 ++ l ++ s.data.toList) ((padL key 0x36 ++ l ++ s.data.toList).length / 64)) kk (padL key 0x36 ++ l ++ s.data.toList).length r1
    refine ⟨_, hcells st' k' (padL key 0x5c).length, hcl, hcells_len _ _ _ q2, ⟨kk, r1, by rw [← List.append_assoc]; exact r2, by rw [← List.append_assoc]; exact r3⟩, ⟨k', q2, q6, by rw [← q5]; simpa using r3⟩⟩)
  clear hb q1 q2 q3 q4 q5 q6 hB hpl hr hk
  go_enter Tryd.func25, Tryd.ntmps25
  go_wp2_with fail
  refine HW.out.mono ?_
  rintro e w1 ⟨rfl, h1, h3⟩
  have H1 := hide (HF.out _ h1)
  have H3 := hide h3
  clear h1 h3
  go_wp2
  go_end0
  exact ⟨rfl, H1.out, H3.out⟩

/-- The HMAC. -/
def macL (key l : List UInt8) : List UInt8 := Sha.sum (padL key 0x5c ++ Sha.sum (padL key 0x36 ++ l))
theorem macL_len (key l : List UInt8) : (macL key l).length = 32 := Sha.sum_len _

set_option maxRecDepth 100000 in
set_option maxHeartbeats 800000 in
theorem ksum_any (b : Nat) (key l : List UInt8) (w : World) (hn : l.length < 2 ^ 58) (hb : MRep w b 64 key l) (hk : KTab w) (h2 : 2 ≤ w.heap.size) :
    Calls Tryd.prog 26 #[.pointer (some ⟨b, 0, none⟩)] w fun e w' => e = .returned (.string ⟨(macL key l).toArray⟩) ∧ Below w.heap.size w w' := by
  have hbl := hb.lt'
  obtain ⟨ci, co, n1, n2, hr1, hr2⟩ := hb
  have hp1 := padL_len key 0x36
  have hp2 := padL_len key 0x5c
  have H1 := hide (hsum_any b 64 [] co (padL key 0x36 ++ l) w (by rw [List.length_append, hp1]; omega) hr1 hk h2)
  have hs1 := Sha.sum_len (padL key 0x36 ++ l)
  have hdef : macL key l = Sha.sum (padL key 0x5c ++ Sha.sum (padL key 0x36 ++ l)) := rfl
  generalize Sha.sum (padL key 0x36 ++ l) = hh at *
  obtain ⟨hs, hhs⟩ : ∃ hs : ByteArray, hs = ⟨hh.toArray⟩ := ⟨_, rfl⟩
  have hhl : hs.data.toList = hh := by rw [hhs]
  have hhz : hs.size = 32 := by rw [hhs]; show hh.toArray.size = 32; rw [List.size_toArray]; exact hs1
  rw [← hhs] at H1
  rw [← hhl] at hdef
  generalize padL key 0x5c = po at *
  have HD := hide hdef
  have HR2 := hide hr2
  have HP2 := hide hp2
  clear hr1 hr2 hp1 hp2 hs1 hhs hhl hdef n2
  go_enter Tryd.func26, Tryd.ntmps26
  go_wp2_with fail
  refine H1.out.mono ?_
  rintro e w1 ⟨rfl, hb1⟩
  have hcp := copy_any b 64 ci [] po w1 (HR2.out.below hb1 hbl)
  rw [n1] at hcp
  have HCP := hide hcp
  have hk1 := hk.below hb1 h2
  have h21 : 2 ≤ w1.heap.size := Nat.le_trans h2 hb1.size
  have HB1 := hide hb1
  clear hb1 hcp hk H1
  go_wp2_with fail
  refine HCP.out.mono ?_
  rintro e w2 ⟨rfl, hr, hb2⟩
  have hk2 := hk1.below hb2 h21
  have hl2 := hr.lt
  have HW := hide (hwrite_any w1.heap.size 59 [] [] po hs w2 (by rw [HP2.out, hhz]; decide) hr hk2 h21)
  have HB2 := hide (HB1.out.trans (hb2.mono HB1.out.size))
  have hge : w.heap.size ≤ w1.heap.size := HB1.out.size
  clear hr hb2 hk1 HCP HB1
  generalize w1.heap.size = nb at *
  go_wp2_with fail
  refine HW.out.mono ?_
  rintro e w3 ⟨rfl, hr3, hg3⟩
  have hb3 : Below w.heap.size w w3 := HB2.out.trans (RowKit.Below.of_grown hg3 hge (by omega))
  have hb23 : Below nb w2 w3 := RowKit.Below.of_grown hg3 (Nat.le_refl _) (by omega)
  have hk3 := hk2.below hb23 h21
  have hsz3 := hr3.lt
  have HS := hide (hsum_any nb 59 [] [] (po ++ hs.data.toList) w3 (by rw [List.length_append, HP2.out, Array.length_toList, show hs.data.size = hs.size from rfl, hhz]; decide) hr3 hk3 (by omega))
  rw [← HD.out] at HS
  have HB3 := hide hb3
  clear hr3 hg3 hb3 hb23 hk2 hk3 HB2 HW
  go_wp2_with fail
  refine HS.out.mono ?_
  rintro e w4 ⟨rfl, hb4⟩
  have HB4 := hide (HB3.out.trans (hb4.mono HB3.out.size))
  clear hb4
  go_wp2
  go_ret
  exact ⟨rfl, HB4.out⟩

set_option maxRecDepth 100000 in
set_option maxHeartbeats 800000 in
theorem hmac_any (key text : ByteArray) (w : World) (hkey : key.size < 2 ^ 57) (htext : text.size < 2 ^ 57) (hk : KTab w) (hH : HTab w) (h2 : 2 ≤ w.heap.size) :
    Calls Tryd.prog 11 #[.string key, .string text] w fun e w' => e = .returned (.string ⟨(macL key.data.toList text.data.toList).toArray⟩) ∧ Below w.heap.size w w' := by
  have H1 := hide (kbegin_any key w (by omega) hk hH h2)
  have htl : text.data.toList.length = text.size := by rw [Array.length_toList]; rfl
  have HTL := hide htl
  clear htl
  go_enter Tryd.func11, Tryd.ntmps11
  go_wp2_with fail
  refine H1.out.mono ?_
  rintro e w1 ⟨b, rfl, hge, hm1, hb1⟩
  have hk1 := hk.below hb1 h2
  have hl1 := hm1.lt'
  have HW := hide (kwrite_any b key.data.toList [] text w1 (by show 0 + text.size < 2 ^ 60; omega) hm1 hk1 (by omega))
  have HB1 := hide hb1
  clear hm1 hb1 hk hH H1
  go_wp2_with fail
  refine HW.out.mono ?_
  rintro e w2 ⟨rfl, hm2, hg2⟩
  rw [List.nil_append] at hm2
  have hb2 : Below w.heap.size w1 w2 := RowKit.Below.of_grown hg2 hge (by omega)
  have hk2 := hk1.below hb2 h2
  have hl2 := hm2.lt'
  have HS := hide (ksum_any b key.data.toList text.data.toList w2 (by rw [HTL.out]; omega) hm2 hk2 (by omega))
  have HB2 := hide (HB1.out.trans hb2)
  clear hm2 hg2 hb2 hk1 hk2 HW HB1
  go_wp2_with fail
  refine HS.out.mono ?_
  rintro e w3 ⟨rfl, hb3⟩
  have HB3 := hide (HB2.out.trans (hb3.mono HB2.out.size))
  clear hb3
  go_wp2
  go_ret
  exact ⟨rfl, HB3.out⟩
set_option maxHeartbeats 800000 in
theorem extract_any (key text : ByteArray) (w : World) (hkey : key.size < 2 ^ 57) (htext : text.size < 2 ^ 57) (hk : KTab w) (hH : HTab w) (h2 : 2 ≤ w.heap.size) :
    Calls Tryd.prog 14 #[.string key, .string text] w fun e w' => e = .returned (.string ⟨(macL key.data.toList text.data.toList).toArray⟩) ∧ Below w.heap.size w w' := by
  have H1 := hide (hmac_any key text w hkey htext hk hH h2)
  clear hk hH
  go_enter Tryd.func14, Tryd.ntmps14
  go_wp2_with fail
  refine H1.out.mono ?_
  rintro e w1 ⟨rfl, hb1⟩
  have HB1 := hide hb1
  clear hb1
  go_wp2
  go_ret
  exact ⟨rfl, HB1.out⟩

theorem ba_size (l : List UInt8) : (⟨l.toArray⟩ : ByteArray).size = l.length := List.size_toArray

end Go.Proofs.YtpogfcfgbnccjaaDoor
namespace Go.Proofs.YtpogfcfgbnccjaaDoor
open Go.RowKit

theorem one_str (i : Nat) (hi : i ≤ 255) (w : World) : (convert 42 9 (.slice (some ⟨w.heap.size, 0, none⟩) 1 1)).run Tryd.prog (w.alloc (.cells #[.int .u8 (i : Int)] 5)) = .ok (.string ⟨#[UInt8.ofNat i]⟩) (w.alloc (.cells #[.int .u8 (i : Int)] 5)) := by
  have hB : Blk (w.alloc (.cells #[.int .u8 (i : Int)] 5)) w.heap.size 5 (u8L [UInt8.ofNat i]) := Blk.new rfl (by simp [u8L]; omega)
  exact blk_str hB 1 1 rfl

set_option maxHeartbeats 400000 in
theorem oneByte_any (i : Nat) (hi : i ≤ 255) (w : World) :
    Calls Tryd.prog 50 #[.int .i64 (i : Int)] w fun e w' => e = .returned (.string ⟨#[UInt8.ofNat i]⟩) ∧ Below w.heap.size w w' := by
  have hcv := fun w => one_str i hi w
  have tw : IntKind.u8.wrap (i : Int) = (i : Int) := by show (i : Int) % 256 = _; omega
  have tm : (i : Int) % 256 = (i : Int) := by omega
  go_enter Tryd.func50, Tryd.ntmps50
  go_wp2
  go_ret
  exact ⟨rfl, (Below.refl _ _).alloc (Nat.le_refl _) _⟩

/-- T(k) of the expansion. -/
def expT (prk info : List UInt8) : Nat → List UInt8
  | 0 => []
  | k + 1 => macL prk (expT prk info k ++ info ++ [UInt8.ofNat (k + 1)])
def expO (prk info : List UInt8) : Nat → List UInt8
  | 0 => []
  | k + 1 => expO prk info k ++ expT prk info (k + 1)
theorem expT_len (prk info : List UInt8) (k : Nat) : (expT prk info k).length ≤ 32 := by
  cases k with
  | zero => exact Nat.zero_le _
  | succ k => exact Nat.le_of_eq (macL_len _ _)
theorem expO_len (prk info : List UInt8) : ∀ k, (expO prk info k).length = 32 * k
  | 0 => rfl
  | k + 1 => by
    show (expO prk info k ++ macL _ _).length = _
    rw [List.length_append, expO_len prk info k, macL_len]; omega

theorem ba_list (a b : ByteArray) : (a ++ b).data.toList = a.data.toList ++ b.data.toList := by simp [ByteArray.data_append]
theorem ba_len (a : ByteArray) : a.data.toList.length = a.size := by rw [Array.length_toList]; rfl
theorem ba_sz (a b : ByteArray) : (a ++ b).size = a.size + b.size := by rw [← ba_len, ba_list, List.length_append, ba_len, ba_len]

set_option maxRecDepth 100000 in
set_option maxHeartbeats 800000 in
theorem expand_any (prk info : ByteArray) (n : Nat) (w : World) (hn : n ≤ 8160) (hprk : prk.size < 2 ^ 50) (hinfo : info.size < 2 ^ 50) (hk : KTab w) (hH : HTab w) (h2 : 2 ≤ w.heap.size) :
    Calls Tryd.prog 33 #[.string prk, .string info, .int .i64 (n : Int)] w fun e w' => e = .returned (.string ⟨((expO prk.data.toList info.data.toList ((n + 31) / 32)).take n).toArray⟩) ∧ Below w.heap.size w w' := by
  obtain ⟨i0, hi0, hz0, hz1, hz2⟩ := info_parts infoU8
  have HI0 := hide hi0
  have HZ0 := hide hz0
  have HZ1 := hide hz1
  have HZ2 := hide hz2
  have HTL := hide (expT_len prk.data.toList info.data.toList)
  have HOL := hide (expO_len prk.data.toList info.data.toList)
  have HT := hide (show ∀ k, expT prk.data.toList info.data.toList (k + 1) = macL prk.data.toList (expT prk.data.toList info.data.toList k ++ info.data.toList ++ [UInt8.ofNat (k + 1)]) from fun _ => rfl)
  have HO := hide (show ∀ k, expO prk.data.toList info.data.toList (k + 1) = expO prk.data.toList info.data.toList k ++ expT prk.data.toList info.data.toList (k + 1) from fun _ => rfl)
  have HT0 := hide (show expT prk.data.toList info.data.toList 0 = [] from rfl)
  have HO0 := hide (show expO prk.data.toList info.data.toList 0 = [] from rfl)
  generalize expT prk.data.toList info.data.toList = T at *
  generalize expO prk.data.toList info.data.toList = O at *
  generalize hK : (n + 31) / 32 = K at *
  have HKN := hide hK
  clear hi0 hz0 hz1 hz2 hK
  go_enter Tryd.func33, Tryd.ntmps33
  go_wp2
  go_loopw [7, 8, 9] (fun vo vl vi wr => ∃ (k i m : Nat) (last : ByteArray), k ≤ K ∧ i = k + 1 ∧ m = 32 * k ∧ vi = .int .i64 (i : Nat) ∧ vl = .string last ∧ last.data.toList = T k ∧ wr.ownsRow w.heap.size 5 1 vo m (u8L (O k)) ∧ Below w.heap.size w wr ∧ vo ≠ .slice none 0 0) (fun _ _ i _ => 300 - (intOf i).toNat)
  case atStart =>
    refine ⟨0, 1, 0, ⟨#[]⟩, by omega, rfl, rfl, rfl, rfl, by rw [HT0.out], ?_, (Below.refl _ _).alloc (Nat.le_refl _) _, by simp⟩
    rw [HO0.out]
    exact ⟨rfl, .inr ⟨w.heap.size, 0, #[], rfl, Nat.le_refl _, heap_alloc_new w _, Nat.le_refl _, by decide, rfl, rfl⟩⟩
  case round =>
    obtain ⟨k, i, m, last, hkK, hik, hmk, rfl, rfl, hlast, hown, hbe, hne⟩ := hrel
    obtain ⟨ao, cap, rfl⟩ : ∃ ao cap, u7 = .slice ao m cap := by
      rcases hown.2 with ⟨rfl, rfl⟩ | ⟨g, cap, cur, rfl, _⟩
      · exact ⟨none, 0, rfl⟩
      · exact ⟨_, cap, rfl⟩
    have hKN := HKN.out
    by_cases hlt : m < n
    · have hi255 : i ≤ 255 := by omega
      have hll : last.size ≤ 32 := by rw [← ba_len, hlast]; exact HTL.out k
      have ls : (last ++ info ++ (⟨#[UInt8.ofNat i]⟩ : ByteArray)).data.toList = T k ++ info.data.toList ++ [UInt8.ofNat (k + 1)] := by rw [ba_list, ba_list, hlast, hik]
      have zs : (last ++ info ++ (⟨#[UInt8.ofNat i]⟩ : ByteArray)).size = last.size + info.size + 1 := by rw [ba_sz, ba_sz]; rfl
      have j1 : ¬ 9223372036854775807 < last.size + info.size := by omega
      have j2 : ¬ 9223372036854775807 < (last ++ info).size + (⟨#[UInt8.ofNat i]⟩ : ByteArray).size := by rw [ba_sz]; show ¬ 9223372036854775807 < last.size + info.size + 1; omega
      have hkr := hk.below hbe h2
      have hHr := hH.below hbe h2
      have h2r : 2 ≤ wr.heap.size := Nat.le_trans h2 hbe.size
      have HM := hide (fun w (a : KTab w) (b : HTab w) (c : 2 ≤ w.heap.size) => hmac_any prk (last ++ info ++ (⟨#[UInt8.ofNat i]⟩ : ByteArray)) w (by omega) (by rw [zs]; omega) a b c)
      rw [ls, ← HT.out k] at HM
      have hTl : (T (k + 1)).length = 32 := by rw [HT.out]; exact macL_len _ _
      obtain ⟨nl, hnl⟩ : ∃ nl : ByteArray, nl = ⟨(T (k + 1)).toArray⟩ := ⟨_, rfl⟩
      have hnll : nl.data.toList = T (k + 1) := by rw [hnl]
      have hnlz : nl.size = 32 := by rw [hnl, ba_size, hTl]
      rw [← hnl] at HM
      have HONE := hide (oneByte_any i hi255)
      have HOWN := hide hown
      have HBE := hide hbe
      have HNL := hide hnll
      have HIK := hide hik
      have HMK := hide hmk
      have HKR := hide hkr
      have HHR := hide hHr
      clear hown hbe ls zs hll hTl hnl hnll hlast hik hmk hkr hHr
      have jm : (m : Int) < (n : Int) := by omega
      generalize (⟨#[UInt8.ofNat i]⟩ : ByteArray) = ob at *
      go_wp2_with fail
      refine (HONE.out _).mono ?_
      rintro e w1 ⟨rfl, hb1⟩
      have HOWN1 := hide (HOWN.out.kept (hb1.grownBy none) (by cases hv : Value.ownBlock (.slice ao m cap) <;> simp))
      have HB1 := hide (HBE.out.trans (hb1.mono HBE.out.size))
      have HMM := hide (HM.out w1 (HKR.out.below hb1 h2r) (HHR.out.below hb1 h2r) (Nat.le_trans h2r hb1.size))
      clear hb1 HOWN HBE HM HONE HKR HHR
      go_wp2_with fail
      refine HMM.out.mono ?_
      rintro e w2 ⟨rfl, hb2⟩
      have HOWN2 := hide (HOWN1.out.kept (hb2.grownBy none) (by cases hv : Value.ownBlock (.slice ao m cap) <;> simp))
      have HB2 := hide (HB1.out.trans (hb2.mono HB1.out.size))
      clear hb2 HOWN1 HB1 HMM
      go_wp2_with (at_builtin; refine Lib.wpList_append_own_string (P := Tryd.prog) w2 rfl (.tmp 25) (.tmp 26) 42 9 rfl w.heap.size 5 i0 Tryd.underlying42 Tryd.underlying9 HI0.out HZ0.out HZ1.out HZ2.out _ m _ rfl HOWN2.out nl rfl ?_ ?_ HB2.out.size ?_; (unfold maxLen; omega); omega; intro v1 w3 hr1 hg1 hv1)
      go_roundw
      case rel =>
        refine ⟨k + 1, i + 1, m + nl.size, nl, by have := HMK.out; omega, by rw [HIK.out], by rw [HMK.out, hnlz]; omega, by go_num, rfl, HNL.out, ?_, ?_, fun e => hne (hv1.1 e).1⟩
        · have e : u8L (O (k + 1)) = u8L (O k) ++ Lib.strCells nl := by
            rw [HO.out, u8L_append, ← HNL.out]; rfl
          rw [e]
          exact hr1
        · exact Below.grown HB2.out hg1 HB2.out.size (fun k hk => (HOWN2.out.lt k hk).1)
      case measure => simp [intOf]; omega
    · have hkk : k = K := by omega
      have jm : ¬ (m : Int) < (n : Int) := by omega
      rcases hown.2 with ⟨hnil, _⟩ | ⟨g, cap', cur, hv, hg1, hg2, hg3, hg4, hg5, hg6⟩
      · exact absurd hnil hne
      · injection hv with e1 _ e3
        subst e1 e3
        subst hkk
        have hOl : ((O k).take n).length = n := by rw [List.length_take, HOL.out]; omega
        have hB : ∀ j u, (u8L (O k))[j]? = some u → wr.cell? ⟨g, j, none⟩ = some u := fun j u hu => by
          have := hown.cells (g := g) rfl j u hu
          rwa [Addr.add_mid, Nat.zero_add] at this
        have hcv : (convert 42 9 (.slice (some ⟨g, 0, none⟩) n cap)).run Tryd.prog wr = .ok (.string ⟨((O k).take n).toArray⟩) wr := by
          have h := run_convert_bytes_back (P := Tryd.prog) wr 42 9 5 ⟨g, 0, none⟩ cap ((O k).take n) Tryd.underlying42 Tryd.underlying5 Tryd.underlying9 (fun j hj => by
            rw [Addr.add_mid, Nat.zero_add]
            refine hB j _ ?_
            simp only [List.length_take] at hj
            rw [List.getElem_take]
            simp [u8L, show j < (O k).length by omega])
          rw [hOl] at h
          exact h
        have jc : n ≤ cap := by omega
        have HBE := hide hbe
        unfold maxLen at hg4
        generalize hout : (O k).take n = out at *
        have HOUT := hide hout
        clear hout
        clear hown hbe hlast hmk hik hkK hKN HTL HOL HT HO HKN hB hg1 hg2 hg5 hg6 hOl HT0 HO0
        go_wp2
        go_ret
        rw [HOUT.out]
        exact ⟨rfl, HBE.out⟩
end Go.Proofs.YtpogfcfgbnccjaaDoor
namespace Go.Proofs.YtpogfcfgbnccjaaDoor
open Go.RowKit

set_option maxHeartbeats 800000 in
theorem kExpand_any (prk info : ByteArray) (n : Nat) (w : World) (hn : n ≤ 8160) (hprk : prk.size < 2 ^ 50) (hinfo : info.size < 2 ^ 50) (hk : KTab w) (hH : HTab w) (h2 : 2 ≤ w.heap.size) :
    Calls Tryd.prog 15 #[.string prk, .string info, .int .i64 (n : Int)] w fun e w' => e = .returned (.tuple #[.string ⟨((expO prk.data.toList info.data.toList ((n + 31) / 32)).take n).toArray⟩, .int .i64 0]) ∧ Below w.heap.size w w' := by
  have j0 : ¬ (n : Int) < 0 := by omega
  have j1 : ¬ (8160 : Int) < (n : Int) := by omega
  have H := hide (expand_any prk info n w hn hprk hinfo hk hH h2)
  clear hk hH
  go_enter Tryd.func15, Tryd.ntmps15
  go_wp2_with fail
  refine H.out.mono ?_
  rintro e w1 ⟨rfl, hb1⟩
  have HB := hide hb1
  clear hb1
  go_wp2
  refine bodyPost_ret (results_tmp2 rfl _ _ _) rfl ?_
  exact ⟨rfl, HB.out⟩
theorem ba_ext {a b : ByteArray} (h : a.data.toList = b.data.toList) : a = b := ByteArray.ext (Array.toList_inj.1 h)
end Go.Proofs.YtpogfcfgbnccjaaDoor
namespace Go.Proofs.YtpogfcfgbnccjaaDoor
open Go.RowKit

/-- Work above all that was there at w0: what lay there is as it was, the tables too. -/
structure Over (w0 w : World) : Prop where
  b : Below w0.heap.size w0 w
  k : KTab w
  h : HTab w
  z : 2 ≤ w0.heap.size
theorem Over.sz {w0 w : World} (o : Over w0 w) : 2 ≤ w.heap.size := Nat.le_trans o.z o.b.size
theorem Over.below {w0 w w' : World} (o : Over w0 w) (hb : Below w.heap.size w w') : Over w0 w' :=
  ⟨o.b.trans (hb.mono o.b.size), o.k.below hb o.sz, o.h.below hb o.sz, o.z⟩
end Go.Proofs.YtpogfcfgbnccjaaDoor
namespace Go.Proofs.YtpogfcfgbnccjaaDoor
open Go.RowKit

theorem or_u8 (a b : Int) : 0 ≤ bits .or .u8 a b ∧ bits .or .u8 a b < 256 := by
  have h : bits .or .u8 a b = ((BitVec.ofInt 8 a ||| BitVec.ofInt 8 b).toNat : Int) % 256 := rfl
  rw [h]
  omega
end Go.Proofs.YtpogfcfgbnccjaaDoor
namespace Go.Proofs.YtpogfcfgbnccjaaDoor
open Go.RowKit

/-- What a hexadecimal digit says. -/
def dg (c : UInt8) : UInt8 := if 97 ≤ c.toNat then c - 87 else c - 48
theorem dg_hi (c : UInt8) (h : 97 ≤ c.toNat) : ((dg c).toNat : Int) = (c.toNat : Int) - 87 := by
  unfold dg
  rw [if_pos h, UInt8.toNat_sub]
  have := c.toNat_lt
  have h1 : (87 : UInt8).toNat = 87 := rfl
  rw [h1]
  omega
theorem dg_lo (c : UInt8) (h : ¬ 97 ≤ c.toNat) : ((dg c).toNat : Int) = ((c.toNat : Int) - 48) % 256 := by
  unfold dg
  rw [if_neg h, UInt8.toNat_sub]
  have := c.toNat_lt
  have h1 : (48 : UInt8).toNat = 48 := rfl
  rw [h1]
  omega
theorem hexDigit_any (c : UInt8) (w : World) : Calls Tryd.prog 32 #[.int .u8 ((c.toNat : Nat) : Int)] w fun e w' => e = .returned (.int .u8 (((dg c).toNat : Nat) : Int)) ∧ w' = w := by
  have hl := c.toNat_lt
  by_cases h : 97 ≤ c.toNat
  · have z : (decide ((97 : Int) ≤ (c.toNat : Int))) = true := by simp; omega
    have HD := hide (dg_hi c h)
    go_enter Tryd.func32, Tryd.ntmps32
    go_wp2
    go_ret
    exact ⟨ret_int (by rw [HD.out]; omega), rfl⟩
  · have z : (decide ((97 : Int) ≤ (c.toNat : Int))) = false := by simp; omega
    have HD := hide (dg_lo c h)
    go_enter Tryd.func32, Tryd.ntmps32
    go_wp2
    go_ret
    exact ⟨ret_int HD.out.symm, rfl⟩

/-- Two digits, a byte. -/
def hv (a b : UInt8) : UInt8 := UInt8.ofNat (bits .or .u8 (((dg a).toNat : Int) * 16 % 256) ((dg b).toNat : Int)).toNat
theorem hv_eq (a b : UInt8) : bits .or .u8 (((dg a).toNat : Int) * 16 % 256) ((dg b).toNat : Int) = (((hv a b).toNat : Nat) : Int) := by
  unfold hv
  rw [ofNat_mod]
  have := or_u8 (((dg a).toNat : Int) * 16 % 256) ((dg b).toNat : Int)
  omega
def hexP (l : List UInt8) (k : Nat) : List UInt8 := (List.range k).map fun i => hv (l.getD (2 * i) 0) (l.getD (2 * i + 1) 0)
theorem hexP_succ (l : List UInt8) (k : Nat) : hexP l (k + 1) = hexP l k ++ [hv (l.getD (2 * k) 0) (l.getD (2 * k + 1) 0)] := by simp [hexP, List.range_succ]
theorem make_cap (n : Nat) (hn : n ≤ 1099511627776) (w : World) : (Instr.makeSlice 42 (.int .i64 0) (.int .i64 (n : Nat))).run Tryd.prog w = .ok (.slice (some ⟨w.heap.size, 0, none⟩) 0 n) (w.alloc (.cells (u8L (List.replicate n 0)).toArray 5)) := by
  obtain ⟨i0, hi, hz0, hz1, hz2⟩ := info_parts infoU8
  have h := run_make (P := Tryd.prog) w 42 5 i0 (.int .u8 0) Tryd.underlying42 hi hz0 .i64 .i64 0 (n : Int) (by omega) (by omega) (by rw [hz2]; omega) (by omega)
  rw [hz1] at h
  simp only [Int.toNat_natCast] at h
  rw [bytes_made] at h
  exact h

set_option maxRecDepth 100000 in
set_option maxHeartbeats 1600000 in
theorem hexBytes_any (s : ByteArray) (w : World) (hs : s.size ≤ 1000000) :
    Calls Tryd.prog 12 #[.string s] w fun e w' => e = .returned (.string ⟨(hexP s.data.toList (s.size / 2)).toArray⟩) ∧ Below w.heap.size w w' := by
  have hmk := make_cap (s.size / 2) (by omega)
  have hrow : Row (w.alloc (.cells (u8L (List.replicate (s.size / 2) 0)).toArray 5)) w.heap.size 5 1 (.slice (some ⟨w.heap.size, 0, none⟩) 0 (s.size / 2)) 0 (u8L (hexP s.data.toList 0)) :=
    ⟨rfl, .inr ⟨w.heap.size, s.size / 2, u8L (List.replicate (s.size / 2) 0), rfl, Nat.le_refl _, (Blk.new rfl rfl : Blk _ _ _ (u8L (List.replicate (s.size / 2) 0))).marked, Nat.zero_le _, by unfold maxLen; omega, by simp [u8L], rfl⟩⟩
  have hbe : Below w.heap.size w (w.alloc (.cells (u8L (List.replicate (s.size / 2) 0)).toArray 5)) := (Below.refl _ _).alloc (Nat.le_refl _) _
  have hdv : ((s.size : Int)).tdiv 2 = ((s.size / 2 : Nat) : Int) := by rw [Int.tdiv_eq_ediv_of_nonneg (by omega)]; omega
  have hw64 : wrap64 ((s.size / 2 : Nat) : Int) = ((s.size / 2 : Nat) : Int) := IntWalk.wrap64_in _ (by omega)
  generalize hN : s.size / 2 = N at *
  have HN := hide hN
  clear hN
  go_enter Tryd.func12, Tryd.ntmps12
  go_wp2
  go_loopw [3, 4] (fun v i wr => ∃ j : Nat, j ≤ N ∧ i = .int .i64 (2 * j : Nat) ∧ Row wr w.heap.size 5 1 v j (u8L (hexP s.data.toList j)) ∧ Below w.heap.size w wr) (fun _ i _ => s.size + 2 - (intOf i).toNat)
  case atStart => exact ⟨0, Nat.zero_le _, rfl, hrow, hbe⟩
  case round =>
    clear hrow hbe hmk hdv hw64
    obtain ⟨j, hj, rfl, hr, hbe⟩ := hrel
    have hsz := hbe.size
    by_cases hlt : j < N
    · have hn := HN.out
      obtain ⟨ia, hia⟩ : ∃ a : Nat, a = 2 * j := ⟨_, rfl⟩
      obtain ⟨ib, hib⟩ : ∃ a : Nat, a = ia + 1 := ⟨_, rfl⟩
      have jN : j ≤ 1000000 := by omega
      have i1 : ia < s.size := by omega
      have i2 : ib < s.size := by omega
      have q1 : IntKind.i64.wrap ((ia : Int) + 1) = (ib : Int) := (IntWalk.i64_in _ (by omega)).trans (by omega)
      have z1 : (decide ((ib : Int) < (s.size : Int))) = true := by simp; omega
      rw [← hia]
      have HIA := hide hia
      have HIB := hide hib
      have HR := hide hr
      have HBE := hide hbe
      obtain ⟨ao, cap, rfl, hc1, hc2, _⟩ := Row.strAny hr
      have HDA := hide (fun w => hexDigit_any (s[ia]'i1) w)
      have HDB := hide (fun w => hexDigit_any (s[ib]'i2) w)
      clear hr hbe hia hib hn
      have ha : s.data.toList.getD ia 0 = s[ia]'i1 := (byte_at s ia i1).symm
      have hb : s.data.toList.getD ib 0 = s[ib]'i2 := (byte_at s ib i2).symm
      have hnew : hexP s.data.toList j ++ [hv (s[ia]'i1) (s[ib]'i2)] = hexP s.data.toList (j + 1) := by rw [hexP_succ, ← HIA.out, ← HIB.out, ha, hb]
      have HNEW := hide hnew
      clear hnew ha hb
      go_wp2_with fail
      refine (HDA.out _).mono ?_
      rintro e w2 ⟨rfl, rfl⟩
      clear HDA
      go_wp2_with fail
      refine (HDB.out _).mono ?_
      rintro e w3 ⟨rfl, rfl⟩
      clear HDB
      have t2 := hv_eq (s[ia]'i1) (s[ib]'i2)
      generalize hv (s[ia]'i1) (s[ib]'i2) = y at *
      have dl1 := (dg (s[ia]'i1)).toNat_lt
      have dl2 := (dg (s[ib]'i2)).toNat_lt
      generalize dg (s[ia]'i1) = da at *
      generalize dg (s[ib]'i2) = db at *
      go_wp2_with (at_builtin; refine wpList_append_u8 rfl (.tmp 27) (.tmp 32) rfl w.heap.size _ j _ rfl (HR.out.alloc _) ⟨w3.heap.size, 0, none⟩ 1 1 [y] rfl rfl ?_ ?_ ?_ ?_; exact one_news rfl (World.cell?_alloc_at _ _ _ _ rfl); omega; (simp; omega); intro v1 w1 hr1 hg1 hat1)
      go_roundw
      case rel =>
        refine ⟨j + 1, by omega, ?_, ?_, Below.grown (HBE.out.alloc hsz _) hg1 (by simp; omega) (fun k hk => (HR.out.lt k hk).1)⟩
        · have := HIA.out
          go_num
        · rw [HNEW.out] at hr1
          exact hr1
      case measure => simp [intOf]; omega
    · have hn := HN.out
      obtain ⟨ia, hia⟩ : ∃ a : Nat, a = 2 * j := ⟨_, rfl⟩
      have hjN : j = N := by omega
      have z1 : (decide ((ia : Int) + 1 < (s.size : Int))) = false := by simp; omega
      rw [← hia]
      have jia : (ia : Int) + 1 ≤ 9223372036854775807 := by omega
      rw [hjN] at hr
      obtain ⟨ao, cap, rfl, hc1, hc2, hcv⟩ := Row.strAny hr
      have HBE := hide hbe
      clear hr hbe hia hn hjN hj hlt HN
      go_wp2
      go_ret
      exact ⟨rfl, HBE.out⟩
end Go.Proofs.YtpogfcfgbnccjaaDoor
namespace Go.Proofs.YtpogfcfgbnccjaaDoor
open Go.RowKit

set_option maxHeartbeats 800000 in
theorem is_true (s hex : ByteArray) (w : World) (hz : hex.size ≤ 1000000) (h : s.data.toList = hexP hex.data.toList (hex.size / 2)) :
    Calls Tryd.prog 10 #[.string s, .string hex] w fun e w' => e = .returned (.bool true) ∧ Below w.heap.size w w' := by
  have he : (⟨(hexP hex.data.toList (hex.size / 2)).toArray⟩ : ByteArray) = s := ba_ext (by rw [h])
  have HB := hide (fun w => hexBytes_any hex w hz)
  rw [he] at HB
  clear he h
  go_enter Tryd.func10, Tryd.ntmps10
  go_wp2_with fail
  refine (HB.out _).mono ?_
  rintro e w1 ⟨rfl, hb1⟩
  have B1 := hide hb1
  clear hb1 HB
  go_wp2
  go_ret
  exact ⟨by simp, B1.out⟩

def runL (f k : Nat) : List UInt8 := (List.range k).map fun i => UInt8.ofNat (f + i)
theorem runL_succ (f k : Nat) : runL f (k + 1) = runL f k ++ [UInt8.ofNat (f + k)] := by simp [runL, List.range_succ]
theorem runL_len (f k : Nat) : (runL f k).length = k := by simp [runL]
theorem run_new (f n k : Nat) (hk : k < n) : (u8L (runL f k ++ List.replicate (n - k) 0))[k]? = some (.int .u8 0) := by
  unfold u8L
  rw [List.getElem?_map, List.getElem?_append_right (by rw [runL_len]; exact Nat.le_refl _), runL_len, Nat.sub_self, List.getElem?_replicate, if_pos (by omega)]
  rfl
theorem run_set (f n k : Nat) (hk : k < n) : (u8L (runL f k ++ List.replicate (n - k) 0)).set k (.int .u8 (((UInt8.ofNat (f + k)).toNat : Nat) : Int)) = u8L (runL f (k + 1) ++ List.replicate (n - (k + 1)) 0) := by
  have h1 : (runL f k ++ List.replicate (n - k) 0).set k (UInt8.ofNat (f + k)) = runL f (k + 1) ++ List.replicate (n - (k + 1)) 0 := by
    rw [List.set_append_right _ _ (by rw [runL_len]; exact Nat.le_refl _), runL_len, Nat.sub_self, runL_succ, List.append_assoc]
    congr 1
    rw [show n - k = (n - (k + 1)) + 1 by omega, List.replicate_succ]
    rfl
  rw [← h1]
  unfold u8L
  rw [List.map_set]

set_option maxRecDepth 100000 in
set_option maxHeartbeats 1600000 in
theorem run_any (f n : Nat) (w : World) (hf : f ≤ 1000) (hn : n ≤ 1000) :
    Calls Tryd.prog 13 #[.int .i64 (f : Nat), .int .i64 (n : Nat)] w fun e w' => e = .returned (.string ⟨(runL f n).toArray⟩) ∧ Below w.heap.size w w' := by
  have hmk := make_bytes n (by omega)
  have hblk : Blk (w.alloc (.cells (u8L (List.replicate n 0)).toArray 5)) w.heap.size 5 (u8L (runL f 0 ++ List.replicate (n - 0) 0)) := Blk.new rfl rfl
  have hbe : Below w.heap.size w (w.alloc (.cells (u8L (List.replicate n 0)).toArray 5)) := (Below.refl _ _).alloc (Nat.le_refl _) _
  go_enter Tryd.func13, Tryd.ntmps13
  go_wp2
  go_loopw [6] (fun i wr => ∃ k : Nat, k ≤ n ∧ i = .int .i64 (k : Nat) ∧ Blk wr w.heap.size 5 (u8L (runL f k ++ List.replicate (n - k) 0)) ∧ Below w.heap.size w wr) (fun i _ => n - (intOf i).toNat)
  case atStart => exact ⟨0, Nat.zero_le _, rfl, hblk, hbe⟩
  case round =>
    clear hblk hbe hmk
    obtain ⟨k, hk, rfl, hB, hbe⟩ := hrel
    by_cases hlt : k < n
    · have c0 : wr.cell? ⟨w.heap.size, k, none⟩ = some (.int .u8 0) := hB.cell (run_new f n k hlt)
      have f0 := hB.frozen k
      have h1 := hB.setCell_same k (.int .u8 (((UInt8.ofNat (f + k)).toNat : Nat) : Int))
      rw [run_set f n k hlt] at h1
      have HN := hide h1
      have HBE := hide hbe
      have q1 : ((f : Int) + (k : Int)) % 256 = (((UInt8.ofNat (f + k)).toNat : Nat) : Int) := by rw [ofNat_mod]; omega
      have jk : (k : Int) < (n : Int) := by omega
      have jw : (f : Int) + (k : Int) ≤ 9223372036854775807 := by omega
      clear hB hbe h1
      generalize UInt8.ofNat (f + k) = y at *
      go_wp2
      go_roundw
      case rel => exact ⟨k + 1, by omega, by go_num, HN.out, HBE.out.setCell (Nat.le_refl _) _⟩
      case measure => simp [intOf]; omega
    · have hkn : k = n := by omega
      subst hkn
      rw [Nat.sub_self, List.replicate_zero, List.append_nil] at hB
      have hcv := blk_str hB k k (runL_len f k)
      have HBE := hide hbe
      have jk : ¬ ((k : Int) < (k : Int)) := by omega
      clear hB hbe
      go_wp2
      go_ret
      exact ⟨rfl, HBE.out⟩
end Go.Proofs.YtpogfcfgbnccjaaDoor
namespace Go.Proofs.YtpogfcfgbnccjaaDoor
/-! The published values. -/
theorem xor_two (key nonce text : List UInt8) (m : Nat) (L1 L2 : List UInt8) (h1 : Cha.block key nonce 1 = L1) (h2 : Cha.block key nonce 2 = L2) (hm : m ≤ 128) :
    Cha.xorL key nonce 1 0 text m = (List.range m).map fun i => text.getD i 0 ^^^ (if i < 64 then L1 else L2).getD (i % 64) 0 := by
  unfold Cha.xorL
  refine List.map_congr_left ?_
  intro i hi
  have hi' : i < m := List.mem_range.1 hi
  unfold Cha.ks
  rw [Nat.zero_add]
  by_cases h : i < 64
  · rw [if_pos h, Nat.div_eq_of_lt h, h1]
  · rw [if_neg h, show i / 64 = 1 by omega, h2]
theorem gold_h0 : Sha.sum [] = [227, 176, 196, 66, 152, 252, 28, 20, 154, 251, 244, 200, 153, 111, 185, 36, 39, 174, 65, 228, 100, 155, 147, 76, 164, 149, 153, 27, 120, 82, 184, 85] := by kernel_rfl
theorem gold_h1 : Sha.sum [97, 98, 99] = [186, 120, 22, 191, 143, 1, 207, 234, 65, 65, 64, 222, 93, 174, 34, 35, 176, 3, 97, 163, 150, 23, 122, 156, 180, 16, 255, 97, 242, 0, 21, 173] := by kernel_rfl
theorem gold_h2 : Sha.sum [97, 98, 99, 100, 98, 99, 100, 101, 99, 100, 101, 102, 100, 101, 102, 103, 101, 102, 103, 104, 102, 103, 104, 105, 103, 104, 105, 106, 104, 105, 106, 107, 105, 106, 107, 108, 106, 107, 108, 109, 107, 108, 109, 110, 108, 109, 110, 111, 109, 110, 111, 112, 110, 111, 112, 113] = [36, 141, 106, 97, 210, 6, 56, 184, 229, 192, 38, 147, 12, 62, 96, 57, 163, 60, 228, 89, 100, 255, 33, 103, 246, 236, 237, 212, 25, 219, 6, 193] := by kernel_rfl
theorem gold_m0 : macL [74, 101, 102, 101] [119, 104, 97, 116, 32, 100, 111, 32, 121, 97, 32, 119, 97, 110, 116, 32, 102, 111, 114, 32, 110, 111, 116, 104, 105, 110, 103, 63] = [91, 220, 193, 70, 191, 96, 117, 78, 106, 4, 36, 38, 8, 149, 117, 199, 90, 0, 63, 8, 157, 39, 57, 131, 157, 236, 88, 185, 100, 236, 56, 67] := by kernel_rfl
theorem gold_m1 : macL [11, 11, 11, 11, 11, 11, 11, 11, 11, 11, 11, 11, 11, 11, 11, 11, 11, 11, 11, 11] [72, 105, 32, 84, 104, 101, 114, 101] = [176, 52, 76, 97, 216, 219, 56, 83, 92, 168, 175, 206, 175, 11, 241, 43, 136, 29, 194, 0, 201, 131, 61, 167, 38, 233, 55, 108, 46, 50, 207, 247] := by kernel_rfl
theorem gold_p0 : macL [0, 1, 2, 3, 4, 5, 6, 7, 8, 9, 10, 11, 12] [11, 11, 11, 11, 11, 11, 11, 11, 11, 11, 11, 11, 11, 11, 11, 11, 11, 11, 11, 11, 11, 11] = [7, 119, 9, 54, 44, 46, 50, 223, 13, 220, 63, 13, 196, 123, 186, 99, 144, 182, 199, 59, 181, 15, 156, 49, 34, 236, 132, 74, 215, 194, 179, 229] := by kernel_rfl
theorem gold_x0 : (expO [7, 119, 9, 54, 44, 46, 50, 223, 13, 220, 63, 13, 196, 123, 186, 99, 144, 182, 199, 59, 181, 15, 156, 49, 34, 236, 132, 74, 215, 194, 179, 229] [240, 241, 242, 243, 244, 245, 246, 247, 248, 249] ((42 + 31) / 32)).take 42 = [60, 178, 95, 37, 250, 172, 213, 122, 144, 67, 79, 100, 208, 54, 47, 42, 45, 45, 10, 144, 207, 26, 90, 76, 93, 176, 45, 86, 236, 196, 197, 191, 52, 0, 114, 8, 213, 184, 135, 24, 88, 101] := by kernel_rfl
theorem gold_b0 : Cha.block [0, 1, 2, 3, 4, 5, 6, 7, 8, 9, 10, 11, 12, 13, 14, 15, 16, 17, 18, 19, 20, 21, 22, 23, 24, 25, 26, 27, 28, 29, 30, 31] [0, 0, 0, 9, 0, 0, 0, 74, 0, 0, 0, 0] 1 = [16, 241, 231, 228, 209, 59, 89, 21, 80, 15, 221, 31, 163, 32, 113, 196, 199, 209, 244, 199, 51, 192, 104, 3, 4, 34, 170, 154, 195, 212, 108, 78, 210, 130, 100, 70, 7, 159, 170, 9, 20, 194, 215, 5, 217, 139, 2, 162, 181, 18, 156, 209, 222, 22, 78, 185, 203, 208, 131, 232, 162, 80, 60, 78] := by kernel_rfl
theorem gold_t0 : Pol.tag [133, 214, 190, 120, 87, 85, 109, 51, 127, 68, 82, 254, 66, 213, 6, 168, 1, 3, 128, 138, 251, 13, 178, 253, 74, 191, 246, 175, 65, 73, 245, 27] [67, 114, 121, 112, 116, 111, 103, 114, 97, 112, 104, 105, 99, 32, 70, 111, 114, 117, 109, 32, 82, 101, 115, 101, 97, 114, 99, 104, 32, 71, 114, 111, 117, 112] = [168, 6, 29, 193, 48, 81, 54, 198, 194, 43, 139, 175, 12, 1, 39, 169] := by kernel_rfl
theorem gold_k0 : Cha.block [128, 129, 130, 131, 132, 133, 134, 135, 136, 137, 138, 139, 140, 141, 142, 143, 144, 145, 146, 147, 148, 149, 150, 151, 152, 153, 154, 155, 156, 157, 158, 159] [7, 0, 0, 0, 64, 65, 66, 67, 68, 69, 70, 71] 0 = [123, 172, 43, 37, 45, 180, 71, 175, 9, 182, 122, 85, 164, 233, 85, 132, 10, 225, 214, 115, 16, 117, 217, 235, 42, 147, 117, 120, 62, 213, 83, 255, 162, 126, 204, 222, 173, 219, 77, 180, 209, 23, 156, 228, 201, 11, 67, 216, 188, 183, 148, 140, 75, 75, 125, 139, 125, 246, 39, 57, 50, 164, 105, 22] := by kernel_rfl
theorem gold_k1 : Cha.block [128, 129, 130, 131, 132, 133, 134, 135, 136, 137, 138, 139, 140, 141, 142, 143, 144, 145, 146, 147, 148, 149, 150, 151, 152, 153, 154, 155, 156, 157, 158, 159] [7, 0, 0, 0, 64, 65, 66, 67, 68, 69, 70, 71] 1 = [159, 123, 233, 93, 1, 253, 64, 186, 21, 226, 143, 251, 54, 129, 10, 174, 193, 192, 136, 63, 9, 1, 110, 222, 221, 138, 208, 135, 85, 130, 3, 165, 78, 158, 203, 56, 172, 142, 94, 43, 184, 218, 178, 15, 250, 219, 82, 232, 117, 4, 178, 110, 190, 105, 109, 79, 96, 164, 133, 207, 17, 184, 27, 89] := by kernel_rfl
theorem gold_k2 : Cha.block [128, 129, 130, 131, 132, 133, 134, 135, 136, 137, 138, 139, 140, 141, 142, 143, 144, 145, 146, 147, 148, 149, 150, 151, 152, 153, 154, 155, 156, 157, 158, 159] [7, 0, 0, 0, 64, 65, 66, 67, 68, 69, 70, 71] 2 = [252, 177, 196, 95, 66, 25, 238, 172, 236, 106, 222, 195, 78, 102, 105, 120, 142, 219, 65, 196, 156, 163, 1, 225, 39, 224, 172, 171, 59, 68, 185, 207, 92, 134, 187, 149, 224, 107, 13, 242, 144, 26, 182, 69, 228, 171, 230, 34, 21, 56, 12, 3, 206, 53, 108, 215, 166, 118, 99, 251, 221, 239, 255, 100] := by kernel_rfl
theorem gold_c : Cha.xorL [128, 129, 130, 131, 132, 133, 134, 135, 136, 137, 138, 139, 140, 141, 142, 143, 144, 145, 146, 147, 148, 149, 150, 151, 152, 153, 154, 155, 156, 157, 158, 159] [7, 0, 0, 0, 64, 65, 66, 67, 68, 69, 70, 71] 1 0 [76, 97, 100, 105, 101, 115, 32, 97, 110, 100, 32, 71, 101, 110, 116, 108, 101, 109, 101, 110, 32, 111, 102, 32, 116, 104, 101, 32, 99, 108, 97, 115, 115, 32, 111, 102, 32, 39, 57, 57, 58, 32, 73, 102, 32, 73, 32, 99, 111, 117, 108, 100, 32, 111, 102, 102, 101, 114, 32, 121, 111, 117, 32, 111, 110, 108, 121, 32, 111, 110, 101, 32, 116, 105, 112, 32, 102, 111, 114, 32, 116, 104, 101, 32, 102, 117, 116, 117, 114, 101, 44, 32, 115, 117, 110, 115, 99, 114, 101, 101, 110, 32, 119, 111, 117, 108, 100, 32, 98, 101, 32, 105, 116, 46] 114 = [211, 26, 141, 52, 100, 142, 96, 219, 123, 134, 175, 188, 83, 239, 126, 194, 164, 173, 237, 81, 41, 110, 8, 254, 169, 226, 181, 167, 54, 238, 98, 214, 61, 190, 164, 94, 140, 169, 103, 18, 130, 250, 251, 105, 218, 146, 114, 139, 26, 113, 222, 10, 158, 6, 11, 41, 5, 214, 165, 182, 126, 205, 59, 54, 146, 221, 189, 127, 45, 119, 139, 140, 152, 3, 174, 227, 40, 9, 27, 88, 250, 179, 36, 228, 250, 214, 117, 148, 85, 133, 128, 139, 72, 49, 215, 188, 63, 244, 222, 240, 142, 75, 122, 157, 229, 118, 210, 101, 134, 206, 198, 75, 97, 22] := by
  rw [xor_two _ _ _ _ _ _ gold_k1 gold_k2 (by decide)]
  kernel_rfl
theorem gold_g : Pol.tag [123, 172, 43, 37, 45, 180, 71, 175, 9, 182, 122, 85, 164, 233, 85, 132, 10, 225, 214, 115, 16, 117, 217, 235, 42, 147, 117, 120, 62, 213, 83, 255] (Box.laid [80, 81, 82, 83, 192, 193, 194, 195, 196, 197, 198, 199] [211, 26, 141, 52, 100, 142, 96, 219, 123, 134, 175, 188, 83, 239, 126, 194, 164, 173, 237, 81, 41, 110, 8, 254, 169, 226, 181, 167, 54, 238, 98, 214, 61, 190, 164, 94, 140, 169, 103, 18, 130, 250, 251, 105, 218, 146, 114, 139, 26, 113, 222, 10, 158, 6, 11, 41, 5, 214, 165, 182, 126, 205, 59, 54, 146, 221, 189, 127, 45, 119, 139, 140, 152, 3, 174, 227, 40, 9, 27, 88, 250, 179, 36, 228, 250, 214, 117, 148, 85, 133, 128, 139, 72, 49, 215, 188, 63, 244, 222, 240, 142, 75, 122, 157, 229, 118, 210, 101, 134, 206, 198, 75, 97, 22]) = [26, 225, 11, 89, 79, 9, 226, 106, 126, 144, 46, 203, 208, 96, 6, 145] := by kernel_rfl
theorem gold_s0 : Box.sealed [128, 129, 130, 131, 132, 133, 134, 135, 136, 137, 138, 139, 140, 141, 142, 143, 144, 145, 146, 147, 148, 149, 150, 151, 152, 153, 154, 155, 156, 157, 158, 159] [7, 0, 0, 0, 64, 65, 66, 67, 68, 69, 70, 71] [80, 81, 82, 83, 192, 193, 194, 195, 196, 197, 198, 199] [76, 97, 100, 105, 101, 115, 32, 97, 110, 100, 32, 71, 101, 110, 116, 108, 101, 109, 101, 110, 32, 111, 102, 32, 116, 104, 101, 32, 99, 108, 97, 115, 115, 32, 111, 102, 32, 39, 57, 57, 58, 32, 73, 102, 32, 73, 32, 99, 111, 117, 108, 100, 32, 111, 102, 102, 101, 114, 32, 121, 111, 117, 32, 111, 110, 108, 121, 32, 111, 110, 101, 32, 116, 105, 112, 32, 102, 111, 114, 32, 116, 104, 101, 32, 102, 117, 116, 117, 114, 101, 44, 32, 115, 117, 110, 115, 99, 114, 101, 101, 110, 32, 119, 111, 117, 108, 100, 32, 98, 101, 32, 105, 116, 46] = [211, 26, 141, 52, 100, 142, 96, 219, 123, 134, 175, 188, 83, 239, 126, 194, 164, 173, 237, 81, 41, 110, 8, 254, 169, 226, 181, 167, 54, 238, 98, 214, 61, 190, 164, 94, 140, 169, 103, 18, 130, 250, 251, 105, 218, 146, 114, 139, 26, 113, 222, 10, 158, 6, 11, 41, 5, 214, 165, 182, 126, 205, 59, 54, 146, 221, 189, 127, 45, 119, 139, 140, 152, 3, 174, 227, 40, 9, 27, 88, 250, 179, 36, 228, 250, 214, 117, 148, 85, 133, 128, 139, 72, 49, 215, 188, 63, 244, 222, 240, 142, 75, 122, 157, 229, 118, 210, 101, 134, 206, 198, 75, 97, 22, 26, 225, 11, 89, 79, 9, 226, 106, 126, 144, 46, 203, 208, 96, 6, 145] := by
  unfold Box.sealed
  rw [show ([76, 97, 100, 105, 101, 115, 32, 97, 110, 100, 32, 71, 101, 110, 116, 108, 101, 109, 101, 110, 32, 111, 102, 32, 116, 104, 101, 32, 99, 108, 97, 115, 115, 32, 111, 102, 32, 39, 57, 57, 58, 32, 73, 102, 32, 73, 32, 99, 111, 117, 108, 100, 32, 111, 102, 102, 101, 114, 32, 121, 111, 117, 32, 111, 110, 108, 121, 32, 111, 110, 101, 32, 116, 105, 112, 32, 102, 111, 114, 32, 116, 104, 101, 32, 102, 117, 116, 117, 114, 101, 44, 32, 115, 117, 110, 115, 99, 114, 101, 101, 110, 32, 119, 111, 117, 108, 100, 32, 98, 101, 32, 105, 116, 46] : List UInt8).length = 114 from rfl, gold_c]
  unfold Box.tag
  rw [gold_k0]
  rw [show ([123, 172, 43, 37, 45, 180, 71, 175, 9, 182, 122, 85, 164, 233, 85, 132, 10, 225, 214, 115, 16, 117, 217, 235, 42, 147, 117, 120, 62, 213, 83, 255, 162, 126, 204, 222, 173, 219, 77, 180, 209, 23, 156, 228, 201, 11, 67, 216, 188, 183, 148, 140, 75, 75, 125, 139, 125, 246, 39, 57, 50, 164, 105, 22] : List UInt8).take 32 = [123, 172, 43, 37, 45, 180, 71, 175, 9, 182, 122, 85, 164, 233, 85, 132, 10, 225, 214, 115, 16, 117, 217, 235, 42, 147, 117, 120, 62, 213, 83, 255] from rfl, gold_g]
  rfl
end Go.Proofs.YtpogfcfgbnccjaaDoor
namespace Go.Proofs.YtpogfcfgbnccjaaDoor
open Go.RowKit
set_option maxRecDepth 100000

/-- What answers x. -/
def Tells (f : Nat) (args : Array Value) (x : Value) : Prop := ∀ w, KTab w → HTab w → 2 ≤ w.heap.size → Calls Tryd.prog f args w fun e w' => e = .returned x ∧ Below w.heap.size w w'
theorem is_h0 : Tells 10 #[.string ⟨#[227, 176, 196, 66, 152, 252, 28, 20, 154, 251, 244, 200, 153, 111, 185, 36, 39, 174, 65, 228, 100, 155, 147, 76, 164, 149, 153, 27, 120, 82, 184, 85]⟩, .string ⟨#[101, 51, 98, 48, 99, 52, 52, 50, 57, 56, 102, 99, 49, 99, 49, 52, 57, 97, 102, 98, 102, 52, 99, 56, 57, 57, 54, 102, 98, 57, 50, 52, 50, 55, 97, 101, 52, 49, 101, 52, 54, 52, 57, 98, 57, 51, 52, 99, 97, 52, 57, 53, 57, 57, 49, 98, 55, 56, 53, 50, 98, 56, 53, 53]⟩] (.bool true) := fun w _ _ _ => is_true _ _ w (by decide) (by kernel_rfl)
theorem is_h1 : Tells 10 #[.string ⟨#[186, 120, 22, 191, 143, 1, 207, 234, 65, 65, 64, 222, 93, 174, 34, 35, 176, 3, 97, 163, 150, 23, 122, 156, 180, 16, 255, 97, 242, 0, 21, 173]⟩, .string ⟨#[98, 97, 55, 56, 49, 54, 98, 102, 56, 102, 48, 49, 99, 102, 101, 97, 52, 49, 52, 49, 52, 48, 100, 101, 53, 100, 97, 101, 50, 50, 50, 51, 98, 48, 48, 51, 54, 49, 97, 51, 57, 54, 49, 55, 55, 97, 57, 99, 98, 52, 49, 48, 102, 102, 54, 49, 102, 50, 48, 48, 49, 53, 97, 100]⟩] (.bool true) := fun w _ _ _ => is_true _ _ w (by decide) (by kernel_rfl)
theorem is_h2 : Tells 10 #[.string ⟨#[36, 141, 106, 97, 210, 6, 56, 184, 229, 192, 38, 147, 12, 62, 96, 57, 163, 60, 228, 89, 100, 255, 33, 103, 246, 236, 237, 212, 25, 219, 6, 193]⟩, .string ⟨#[50, 52, 56, 100, 54, 97, 54, 49, 100, 50, 48, 54, 51, 56, 98, 56, 101, 53, 99, 48, 50, 54, 57, 51, 48, 99, 51, 101, 54, 48, 51, 57, 97, 51, 51, 99, 101, 52, 53, 57, 54, 52, 102, 102, 50, 49, 54, 55, 102, 54, 101, 99, 101, 100, 100, 52, 49, 57, 100, 98, 48, 54, 99, 49]⟩] (.bool true) := fun w _ _ _ => is_true _ _ w (by decide) (by kernel_rfl)
theorem is_m0 : Tells 10 #[.string ⟨#[91, 220, 193, 70, 191, 96, 117, 78, 106, 4, 36, 38, 8, 149, 117, 199, 90, 0, 63, 8, 157, 39, 57, 131, 157, 236, 88, 185, 100, 236, 56, 67]⟩, .string ⟨#[53, 98, 100, 99, 99, 49, 52, 54, 98, 102, 54, 48, 55, 53, 52, 101, 54, 97, 48, 52, 50, 52, 50, 54, 48, 56, 57, 53, 55, 53, 99, 55, 53, 97, 48, 48, 51, 102, 48, 56, 57, 100, 50, 55, 51, 57, 56, 51, 57, 100, 101, 99, 53, 56, 98, 57, 54, 52, 101, 99, 51, 56, 52, 51]⟩] (.bool true) := fun w _ _ _ => is_true _ _ w (by decide) (by kernel_rfl)
theorem is_m1 : Tells 10 #[.string ⟨#[176, 52, 76, 97, 216, 219, 56, 83, 92, 168, 175, 206, 175, 11, 241, 43, 136, 29, 194, 0, 201, 131, 61, 167, 38, 233, 55, 108, 46, 50, 207, 247]⟩, .string ⟨#[98, 48, 51, 52, 52, 99, 54, 49, 100, 56, 100, 98, 51, 56, 53, 51, 53, 99, 97, 56, 97, 102, 99, 101, 97, 102, 48, 98, 102, 49, 50, 98, 56, 56, 49, 100, 99, 50, 48, 48, 99, 57, 56, 51, 51, 100, 97, 55, 50, 54, 101, 57, 51, 55, 54, 99, 50, 101, 51, 50, 99, 102, 102, 55]⟩] (.bool true) := fun w _ _ _ => is_true _ _ w (by decide) (by kernel_rfl)
theorem is_x0 : Tells 10 #[.string ⟨#[60, 178, 95, 37, 250, 172, 213, 122, 144, 67, 79, 100, 208, 54, 47, 42, 45, 45, 10, 144, 207, 26, 90, 76, 93, 176, 45, 86, 236, 196, 197, 191, 52, 0, 114, 8, 213, 184, 135, 24, 88, 101]⟩, .string ⟨#[51, 99, 98, 50, 53, 102, 50, 53, 102, 97, 97, 99, 100, 53, 55, 97, 57, 48, 52, 51, 52, 102, 54, 52, 100, 48, 51, 54, 50, 102, 50, 97, 50, 100, 50, 100, 48, 97, 57, 48, 99, 102, 49, 97, 53, 97, 52, 99, 53, 100, 98, 48, 50, 100, 53, 54, 101, 99, 99, 52, 99, 53, 98, 102, 51, 52, 48, 48, 55, 50, 48, 56, 100, 53, 98, 56, 56, 55, 49, 56, 53, 56, 54, 53]⟩] (.bool true) := fun w _ _ _ => is_true _ _ w (by decide) (by kernel_rfl)
theorem is_b0 : Tells 10 #[.string ⟨#[16, 241, 231, 228, 209, 59, 89, 21, 80, 15, 221, 31, 163, 32, 113, 196, 199, 209, 244, 199, 51, 192, 104, 3, 4, 34, 170, 154, 195, 212, 108, 78, 210, 130, 100, 70, 7, 159, 170, 9, 20, 194, 215, 5, 217, 139, 2, 162, 181, 18, 156, 209, 222, 22, 78, 185, 203, 208, 131, 232, 162, 80, 60, 78]⟩, .string ⟨#[49, 48, 102, 49, 101, 55, 101, 52, 100, 49, 51, 98, 53, 57, 49, 53, 53, 48, 48, 102, 100, 100, 49, 102, 97, 51, 50, 48, 55, 49, 99, 52, 99, 55, 100, 49, 102, 52, 99, 55, 51, 51, 99, 48, 54, 56, 48, 51, 48, 52, 50, 50, 97, 97, 57, 97, 99, 51, 100, 52, 54, 99, 52, 101, 100, 50, 56, 50, 54, 52, 52, 54, 48, 55, 57, 102, 97, 97, 48, 57, 49, 52, 99, 50, 100, 55, 48, 53, 100, 57, 56, 98, 48, 50, 97, 50, 98, 53, 49, 50, 57, 99, 100, 49, 100, 101, 49, 54, 52, 101, 98, 57, 99, 98, 100, 48, 56, 51, 101, 56, 97, 50, 53, 48, 51, 99, 52, 101]⟩] (.bool true) := fun w _ _ _ => is_true _ _ w (by decide) (by kernel_rfl)
theorem is_t0 : Tells 10 #[.string ⟨#[168, 6, 29, 193, 48, 81, 54, 198, 194, 43, 139, 175, 12, 1, 39, 169]⟩, .string ⟨#[97, 56, 48, 54, 49, 100, 99, 49, 51, 48, 53, 49, 51, 54, 99, 54, 99, 50, 50, 98, 56, 98, 97, 102, 48, 99, 48, 49, 50, 55, 97, 57]⟩] (.bool true) := fun w _ _ _ => is_true _ _ w (by decide) (by kernel_rfl)
theorem is_s0 : Tells 10 #[.string ⟨#[211, 26, 141, 52, 100, 142, 96, 219, 123, 134, 175, 188, 83, 239, 126, 194, 164, 173, 237, 81, 41, 110, 8, 254, 169, 226, 181, 167, 54, 238, 98, 214, 61, 190, 164, 94, 140, 169, 103, 18, 130, 250, 251, 105, 218, 146, 114, 139, 26, 113, 222, 10, 158, 6, 11, 41, 5, 214, 165, 182, 126, 205, 59, 54, 146, 221, 189, 127, 45, 119, 139, 140, 152, 3, 174, 227, 40, 9, 27, 88, 250, 179, 36, 228, 250, 214, 117, 148, 85, 133, 128, 139, 72, 49, 215, 188, 63, 244, 222, 240, 142, 75, 122, 157, 229, 118, 210, 101, 134, 206, 198, 75, 97, 22, 26, 225, 11, 89, 79, 9, 226, 106, 126, 144, 46, 203, 208, 96, 6, 145]⟩, .string ⟨#[100, 51, 49, 97, 56, 100, 51, 52, 54, 52, 56, 101, 54, 48, 100, 98, 55, 98, 56, 54, 97, 102, 98, 99, 53, 51, 101, 102, 55, 101, 99, 50, 97, 52, 97, 100, 101, 100, 53, 49, 50, 57, 54, 101, 48, 56, 102, 101, 97, 57, 101, 50, 98, 53, 97, 55, 51, 54, 101, 101, 54, 50, 100, 54, 51, 100, 98, 101, 97, 52, 53, 101, 56, 99, 97, 57, 54, 55, 49, 50, 56, 50, 102, 97, 102, 98, 54, 57, 100, 97, 57, 50, 55, 50, 56, 98, 49, 97, 55, 49, 100, 101, 48, 97, 57, 101, 48, 54, 48, 98, 50, 57, 48, 53, 100, 54, 97, 53, 98, 54, 55, 101, 99, 100, 51, 98, 51, 54, 57, 50, 100, 100, 98, 100, 55, 102, 50, 100, 55, 55, 56, 98, 56, 99, 57, 56, 48, 51, 97, 101, 101, 51, 50, 56, 48, 57, 49, 98, 53, 56, 102, 97, 98, 51, 50, 52, 101, 52, 102, 97, 100, 54, 55, 53, 57, 52, 53, 53, 56, 53, 56, 48, 56, 98, 52, 56, 51, 49, 100, 55, 98, 99, 51, 102, 102, 52, 100, 101, 102, 48, 56, 101, 52, 98, 55, 97, 57, 100, 101, 53, 55, 54, 100, 50, 54, 53, 56, 54, 99, 101, 99, 54, 52, 98, 54, 49, 49, 54, 49, 97, 101, 49, 48, 98, 53, 57, 52, 102, 48, 57, 101, 50, 54, 97, 55, 101, 57, 48, 50, 101, 99, 98, 100, 48, 54, 48, 48, 54, 57, 49]⟩] (.bool true) := fun w _ _ _ => is_true _ _ w (by decide) (by kernel_rfl)
theorem tell_h0 : Tells 9 #[.string ⟨#[]⟩] (.string ⟨#[227, 176, 196, 66, 152, 252, 28, 20, 154, 251, 244, 200, 153, 111, 185, 36, 39, 174, 65, 228, 100, 155, 147, 76, 164, 149, 153, 27, 120, 82, 184, 85]⟩) := fun w a b c => by
  have h := shaSum_any ⟨#[]⟩ w (by decide) a b c
  rw [show (⟨#[]⟩ : ByteArray).data.toList = [] from rfl, gold_h0] at h
  exact h
theorem tell_h1 : Tells 9 #[.string ⟨#[97, 98, 99]⟩] (.string ⟨#[186, 120, 22, 191, 143, 1, 207, 234, 65, 65, 64, 222, 93, 174, 34, 35, 176, 3, 97, 163, 150, 23, 122, 156, 180, 16, 255, 97, 242, 0, 21, 173]⟩) := fun w a b c => by
  have h := shaSum_any ⟨#[97, 98, 99]⟩ w (by decide) a b c
  rw [show (⟨#[97, 98, 99]⟩ : ByteArray).data.toList = [97, 98, 99] from rfl, gold_h1] at h
  exact h
theorem tell_h2 : Tells 9 #[.string ⟨#[97, 98, 99, 100, 98, 99, 100, 101, 99, 100, 101, 102, 100, 101, 102, 103, 101, 102, 103, 104, 102, 103, 104, 105, 103, 104, 105, 106, 104, 105, 106, 107, 105, 106, 107, 108, 106, 107, 108, 109, 107, 108, 109, 110, 108, 109, 110, 111, 109, 110, 111, 112, 110, 111, 112, 113]⟩] (.string ⟨#[36, 141, 106, 97, 210, 6, 56, 184, 229, 192, 38, 147, 12, 62, 96, 57, 163, 60, 228, 89, 100, 255, 33, 103, 246, 236, 237, 212, 25, 219, 6, 193]⟩) := fun w a b c => by
  have h := shaSum_any ⟨#[97, 98, 99, 100, 98, 99, 100, 101, 99, 100, 101, 102, 100, 101, 102, 103, 101, 102, 103, 104, 102, 103, 104, 105, 103, 104, 105, 106, 104, 105, 106, 107, 105, 106, 107, 108, 106, 107, 108, 109, 107, 108, 109, 110, 108, 109, 110, 111, 109, 110, 111, 112, 110, 111, 112, 113]⟩ w (by decide) a b c
  rw [show (⟨#[97, 98, 99, 100, 98, 99, 100, 101, 99, 100, 101, 102, 100, 101, 102, 103, 101, 102, 103, 104, 102, 103, 104, 105, 103, 104, 105, 106, 104, 105, 106, 107, 105, 106, 107, 108, 106, 107, 108, 109, 107, 108, 109, 110, 108, 109, 110, 111, 109, 110, 111, 112, 110, 111, 112, 113]⟩ : ByteArray).data.toList = [97, 98, 99, 100, 98, 99, 100, 101, 99, 100, 101, 102, 100, 101, 102, 103, 101, 102, 103, 104, 102, 103, 104, 105, 103, 104, 105, 106, 104, 105, 106, 107, 105, 106, 107, 108, 106, 107, 108, 109, 107, 108, 109, 110, 108, 109, 110, 111, 109, 110, 111, 112, 110, 111, 112, 113] from rfl, gold_h2] at h
  exact h
theorem tell_m0 : Tells 11 #[.string ⟨#[74, 101, 102, 101]⟩, .string ⟨#[119, 104, 97, 116, 32, 100, 111, 32, 121, 97, 32, 119, 97, 110, 116, 32, 102, 111, 114, 32, 110, 111, 116, 104, 105, 110, 103, 63]⟩] (.string ⟨#[91, 220, 193, 70, 191, 96, 117, 78, 106, 4, 36, 38, 8, 149, 117, 199, 90, 0, 63, 8, 157, 39, 57, 131, 157, 236, 88, 185, 100, 236, 56, 67]⟩) := fun w a b c => by
  have h := hmac_any ⟨#[74, 101, 102, 101]⟩ ⟨#[119, 104, 97, 116, 32, 100, 111, 32, 121, 97, 32, 119, 97, 110, 116, 32, 102, 111, 114, 32, 110, 111, 116, 104, 105, 110, 103, 63]⟩ w (by decide) (by decide) a b c
  rw [show (⟨#[74, 101, 102, 101]⟩ : ByteArray).data.toList = [74, 101, 102, 101] from rfl, show (⟨#[119, 104, 97, 116, 32, 100, 111, 32, 121, 97, 32, 119, 97, 110, 116, 32, 102, 111, 114, 32, 110, 111, 116, 104, 105, 110, 103, 63]⟩ : ByteArray).data.toList = [119, 104, 97, 116, 32, 100, 111, 32, 121, 97, 32, 119, 97, 110, 116, 32, 102, 111, 114, 32, 110, 111, 116, 104, 105, 110, 103, 63] from rfl, gold_m0] at h
  exact h
theorem tell_m1 : Tells 11 #[.string ⟨#[11, 11, 11, 11, 11, 11, 11, 11, 11, 11, 11, 11, 11, 11, 11, 11, 11, 11, 11, 11]⟩, .string ⟨#[72, 105, 32, 84, 104, 101, 114, 101]⟩] (.string ⟨#[176, 52, 76, 97, 216, 219, 56, 83, 92, 168, 175, 206, 175, 11, 241, 43, 136, 29, 194, 0, 201, 131, 61, 167, 38, 233, 55, 108, 46, 50, 207, 247]⟩) := fun w a b c => by
  have h := hmac_any ⟨#[11, 11, 11, 11, 11, 11, 11, 11, 11, 11, 11, 11, 11, 11, 11, 11, 11, 11, 11, 11]⟩ ⟨#[72, 105, 32, 84, 104, 101, 114, 101]⟩ w (by decide) (by decide) a b c
  rw [show (⟨#[11, 11, 11, 11, 11, 11, 11, 11, 11, 11, 11, 11, 11, 11, 11, 11, 11, 11, 11, 11]⟩ : ByteArray).data.toList = [11, 11, 11, 11, 11, 11, 11, 11, 11, 11, 11, 11, 11, 11, 11, 11, 11, 11, 11, 11] from rfl, show (⟨#[72, 105, 32, 84, 104, 101, 114, 101]⟩ : ByteArray).data.toList = [72, 105, 32, 84, 104, 101, 114, 101] from rfl, gold_m1] at h
  exact h
theorem tell_p0 : Tells 14 #[.string ⟨#[0, 1, 2, 3, 4, 5, 6, 7, 8, 9, 10, 11, 12]⟩, .string ⟨#[11, 11, 11, 11, 11, 11, 11, 11, 11, 11, 11, 11, 11, 11, 11, 11, 11, 11, 11, 11, 11, 11]⟩] (.string ⟨#[7, 119, 9, 54, 44, 46, 50, 223, 13, 220, 63, 13, 196, 123, 186, 99, 144, 182, 199, 59, 181, 15, 156, 49, 34, 236, 132, 74, 215, 194, 179, 229]⟩) := fun w a b c => by
  have h := extract_any ⟨#[0, 1, 2, 3, 4, 5, 6, 7, 8, 9, 10, 11, 12]⟩ ⟨#[11, 11, 11, 11, 11, 11, 11, 11, 11, 11, 11, 11, 11, 11, 11, 11, 11, 11, 11, 11, 11, 11]⟩ w (by decide) (by decide) a b c
  rw [show (⟨#[0, 1, 2, 3, 4, 5, 6, 7, 8, 9, 10, 11, 12]⟩ : ByteArray).data.toList = [0, 1, 2, 3, 4, 5, 6, 7, 8, 9, 10, 11, 12] from rfl, show (⟨#[11, 11, 11, 11, 11, 11, 11, 11, 11, 11, 11, 11, 11, 11, 11, 11, 11, 11, 11, 11, 11, 11]⟩ : ByteArray).data.toList = [11, 11, 11, 11, 11, 11, 11, 11, 11, 11, 11, 11, 11, 11, 11, 11, 11, 11, 11, 11, 11, 11] from rfl, gold_p0] at h
  exact h
theorem tell_x0 : Tells 15 #[.string ⟨#[7, 119, 9, 54, 44, 46, 50, 223, 13, 220, 63, 13, 196, 123, 186, 99, 144, 182, 199, 59, 181, 15, 156, 49, 34, 236, 132, 74, 215, 194, 179, 229]⟩, .string ⟨#[240, 241, 242, 243, 244, 245, 246, 247, 248, 249]⟩, .int .i64 42] (.tuple #[.string ⟨#[60, 178, 95, 37, 250, 172, 213, 122, 144, 67, 79, 100, 208, 54, 47, 42, 45, 45, 10, 144, 207, 26, 90, 76, 93, 176, 45, 86, 236, 196, 197, 191, 52, 0, 114, 8, 213, 184, 135, 24, 88, 101]⟩, .int .i64 0]) := fun w a b c => by
  have h := kExpand_any ⟨#[7, 119, 9, 54, 44, 46, 50, 223, 13, 220, 63, 13, 196, 123, 186, 99, 144, 182, 199, 59, 181, 15, 156, 49, 34, 236, 132, 74, 215, 194, 179, 229]⟩ ⟨#[240, 241, 242, 243, 244, 245, 246, 247, 248, 249]⟩ 42 w (by decide) (by decide) (by decide) a b c
  rw [show (⟨#[7, 119, 9, 54, 44, 46, 50, 223, 13, 220, 63, 13, 196, 123, 186, 99, 144, 182, 199, 59, 181, 15, 156, 49, 34, 236, 132, 74, 215, 194, 179, 229]⟩ : ByteArray).data.toList = [7, 119, 9, 54, 44, 46, 50, 223, 13, 220, 63, 13, 196, 123, 186, 99, 144, 182, 199, 59, 181, 15, 156, 49, 34, 236, 132, 74, 215, 194, 179, 229] from rfl, show (⟨#[240, 241, 242, 243, 244, 245, 246, 247, 248, 249]⟩ : ByteArray).data.toList = [240, 241, 242, 243, 244, 245, 246, 247, 248, 249] from rfl, gold_x0] at h
  exact h
theorem tell_y0 : Tells 12 #[.string ⟨#[48, 98, 48, 98, 48, 98, 48, 98, 48, 98, 48, 98, 48, 98, 48, 98, 48, 98, 48, 98, 48, 98, 48, 98, 48, 98, 48, 98, 48, 98, 48, 98, 48, 98, 48, 98, 48, 98, 48, 98, 48, 98, 48, 98]⟩] (.string ⟨#[11, 11, 11, 11, 11, 11, 11, 11, 11, 11, 11, 11, 11, 11, 11, 11, 11, 11, 11, 11, 11, 11]⟩) := fun w _ _ _ => by
  have h := hexBytes_any ⟨#[48, 98, 48, 98, 48, 98, 48, 98, 48, 98, 48, 98, 48, 98, 48, 98, 48, 98, 48, 98, 48, 98, 48, 98, 48, 98, 48, 98, 48, 98, 48, 98, 48, 98, 48, 98, 48, 98, 48, 98, 48, 98, 48, 98]⟩ w (by decide)
  rw [show (⟨(hexP (⟨#[48, 98, 48, 98, 48, 98, 48, 98, 48, 98, 48, 98, 48, 98, 48, 98, 48, 98, 48, 98, 48, 98, 48, 98, 48, 98, 48, 98, 48, 98, 48, 98, 48, 98, 48, 98, 48, 98, 48, 98, 48, 98, 48, 98]⟩ : ByteArray).data.toList ((⟨#[48, 98, 48, 98, 48, 98, 48, 98, 48, 98, 48, 98, 48, 98, 48, 98, 48, 98, 48, 98, 48, 98, 48, 98, 48, 98, 48, 98, 48, 98, 48, 98, 48, 98, 48, 98, 48, 98, 48, 98, 48, 98, 48, 98]⟩ : ByteArray).size / 2)).toArray⟩ : ByteArray) = ⟨#[11, 11, 11, 11, 11, 11, 11, 11, 11, 11, 11, 11, 11, 11, 11, 11, 11, 11, 11, 11, 11, 11]⟩ by kernel_rfl] at h
  exact h
theorem tell_r0 : Tells 13 #[.int .i64 0, .int .i64 13] (.string ⟨#[0, 1, 2, 3, 4, 5, 6, 7, 8, 9, 10, 11, 12]⟩) := fun w _ _ _ => by
  have h := run_any 0 13 w (by decide) (by decide)
  rw [show (⟨(runL 0 13).toArray⟩ : ByteArray) = ⟨#[0, 1, 2, 3, 4, 5, 6, 7, 8, 9, 10, 11, 12]⟩ by kernel_rfl] at h
  exact h
theorem tell_r1 : Tells 13 #[.int .i64 240, .int .i64 10] (.string ⟨#[240, 241, 242, 243, 244, 245, 246, 247, 248, 249]⟩) := fun w _ _ _ => by
  have h := run_any 240 10 w (by decide) (by decide)
  rw [show (⟨(runL 240 10).toArray⟩ : ByteArray) = ⟨#[240, 241, 242, 243, 244, 245, 246, 247, 248, 249]⟩ by kernel_rfl] at h
  exact h
theorem tell_r2 : Tells 13 #[.int .i64 0, .int .i64 32] (.string ⟨#[0, 1, 2, 3, 4, 5, 6, 7, 8, 9, 10, 11, 12, 13, 14, 15, 16, 17, 18, 19, 20, 21, 22, 23, 24, 25, 26, 27, 28, 29, 30, 31]⟩) := fun w _ _ _ => by
  have h := run_any 0 32 w (by decide) (by decide)
  rw [show (⟨(runL 0 32).toArray⟩ : ByteArray) = ⟨#[0, 1, 2, 3, 4, 5, 6, 7, 8, 9, 10, 11, 12, 13, 14, 15, 16, 17, 18, 19, 20, 21, 22, 23, 24, 25, 26, 27, 28, 29, 30, 31]⟩ by kernel_rfl] at h
  exact h
theorem tell_y1 : Tells 12 #[.string ⟨#[48, 48, 48, 48, 48, 48, 48, 57, 48, 48, 48, 48, 48, 48, 52, 97, 48, 48, 48, 48, 48, 48, 48, 48]⟩] (.string ⟨#[0, 0, 0, 9, 0, 0, 0, 74, 0, 0, 0, 0]⟩) := fun w _ _ _ => by
  have h := hexBytes_any ⟨#[48, 48, 48, 48, 48, 48, 48, 57, 48, 48, 48, 48, 48, 48, 52, 97, 48, 48, 48, 48, 48, 48, 48, 48]⟩ w (by decide)
  rw [show (⟨(hexP (⟨#[48, 48, 48, 48, 48, 48, 48, 57, 48, 48, 48, 48, 48, 48, 52, 97, 48, 48, 48, 48, 48, 48, 48, 48]⟩ : ByteArray).data.toList ((⟨#[48, 48, 48, 48, 48, 48, 48, 57, 48, 48, 48, 48, 48, 48, 52, 97, 48, 48, 48, 48, 48, 48, 48, 48]⟩ : ByteArray).size / 2)).toArray⟩ : ByteArray) = ⟨#[0, 0, 0, 9, 0, 0, 0, 74, 0, 0, 0, 0]⟩ by kernel_rfl] at h
  exact h
theorem tell_y2 : Tells 12 #[.string ⟨#[56, 53, 100, 54, 98, 101, 55, 56, 53, 55, 53, 53, 54, 100, 51, 51, 55, 102, 52, 52, 53, 50, 102, 101, 52, 50, 100, 53, 48, 54, 97, 56, 48, 49, 48, 51, 56, 48, 56, 97, 102, 98, 48, 100, 98, 50, 102, 100, 52, 97, 98, 102, 102, 54, 97, 102, 52, 49, 52, 57, 102, 53, 49, 98]⟩] (.string ⟨#[133, 214, 190, 120, 87, 85, 109, 51, 127, 68, 82, 254, 66, 213, 6, 168, 1, 3, 128, 138, 251, 13, 178, 253, 74, 191, 246, 175, 65, 73, 245, 27]⟩) := fun w _ _ _ => by
  have h := hexBytes_any ⟨#[56, 53, 100, 54, 98, 101, 55, 56, 53, 55, 53, 53, 54, 100, 51, 51, 55, 102, 52, 52, 53, 50, 102, 101, 52, 50, 100, 53, 48, 54, 97, 56, 48, 49, 48, 51, 56, 48, 56, 97, 102, 98, 48, 100, 98, 50, 102, 100, 52, 97, 98, 102, 102, 54, 97, 102, 52, 49, 52, 57, 102, 53, 49, 98]⟩ w (by decide)
  rw [show (⟨(hexP (⟨#[56, 53, 100, 54, 98, 101, 55, 56, 53, 55, 53, 53, 54, 100, 51, 51, 55, 102, 52, 52, 53, 50, 102, 101, 52, 50, 100, 53, 48, 54, 97, 56, 48, 49, 48, 51, 56, 48, 56, 97, 102, 98, 48, 100, 98, 50, 102, 100, 52, 97, 98, 102, 102, 54, 97, 102, 52, 49, 52, 57, 102, 53, 49, 98]⟩ : ByteArray).data.toList ((⟨#[56, 53, 100, 54, 98, 101, 55, 56, 53, 55, 53, 53, 54, 100, 51, 51, 55, 102, 52, 52, 53, 50, 102, 101, 52, 50, 100, 53, 48, 54, 97, 56, 48, 49, 48, 51, 56, 48, 56, 97, 102, 98, 48, 100, 98, 50, 102, 100, 52, 97, 98, 102, 102, 54, 97, 102, 52, 49, 52, 57, 102, 53, 49, 98]⟩ : ByteArray).size / 2)).toArray⟩ : ByteArray) = ⟨#[133, 214, 190, 120, 87, 85, 109, 51, 127, 68, 82, 254, 66, 213, 6, 168, 1, 3, 128, 138, 251, 13, 178, 253, 74, 191, 246, 175, 65, 73, 245, 27]⟩ by kernel_rfl] at h
  exact h
theorem tell_r3 : Tells 13 #[.int .i64 128, .int .i64 32] (.string ⟨#[128, 129, 130, 131, 132, 133, 134, 135, 136, 137, 138, 139, 140, 141, 142, 143, 144, 145, 146, 147, 148, 149, 150, 151, 152, 153, 154, 155, 156, 157, 158, 159]⟩) := fun w _ _ _ => by
  have h := run_any 128 32 w (by decide) (by decide)
  rw [show (⟨(runL 128 32).toArray⟩ : ByteArray) = ⟨#[128, 129, 130, 131, 132, 133, 134, 135, 136, 137, 138, 139, 140, 141, 142, 143, 144, 145, 146, 147, 148, 149, 150, 151, 152, 153, 154, 155, 156, 157, 158, 159]⟩ by kernel_rfl] at h
  exact h
theorem tell_y3 : Tells 12 #[.string ⟨#[48, 55, 48, 48, 48, 48, 48, 48, 52, 48, 52, 49, 52, 50, 52, 51, 52, 52, 52, 53, 52, 54, 52, 55]⟩] (.string ⟨#[7, 0, 0, 0, 64, 65, 66, 67, 68, 69, 70, 71]⟩) := fun w _ _ _ => by
  have h := hexBytes_any ⟨#[48, 55, 48, 48, 48, 48, 48, 48, 52, 48, 52, 49, 52, 50, 52, 51, 52, 52, 52, 53, 52, 54, 52, 55]⟩ w (by decide)
  rw [show (⟨(hexP (⟨#[48, 55, 48, 48, 48, 48, 48, 48, 52, 48, 52, 49, 52, 50, 52, 51, 52, 52, 52, 53, 52, 54, 52, 55]⟩ : ByteArray).data.toList ((⟨#[48, 55, 48, 48, 48, 48, 48, 48, 52, 48, 52, 49, 52, 50, 52, 51, 52, 52, 52, 53, 52, 54, 52, 55]⟩ : ByteArray).size / 2)).toArray⟩ : ByteArray) = ⟨#[7, 0, 0, 0, 64, 65, 66, 67, 68, 69, 70, 71]⟩ by kernel_rfl] at h
  exact h
theorem tell_y4 : Tells 12 #[.string ⟨#[53, 48, 53, 49, 53, 50, 53, 51, 99, 48, 99, 49, 99, 50, 99, 51, 99, 52, 99, 53, 99, 54, 99, 55]⟩] (.string ⟨#[80, 81, 82, 83, 192, 193, 194, 195, 196, 197, 198, 199]⟩) := fun w _ _ _ => by
  have h := hexBytes_any ⟨#[53, 48, 53, 49, 53, 50, 53, 51, 99, 48, 99, 49, 99, 50, 99, 51, 99, 52, 99, 53, 99, 54, 99, 55]⟩ w (by decide)
  rw [show (⟨(hexP (⟨#[53, 48, 53, 49, 53, 50, 53, 51, 99, 48, 99, 49, 99, 50, 99, 51, 99, 52, 99, 53, 99, 54, 99, 55]⟩ : ByteArray).data.toList ((⟨#[53, 48, 53, 49, 53, 50, 53, 51, 99, 48, 99, 49, 99, 50, 99, 51, 99, 52, 99, 53, 99, 54, 99, 55]⟩ : ByteArray).size / 2)).toArray⟩ : ByteArray) = ⟨#[80, 81, 82, 83, 192, 193, 194, 195, 196, 197, 198, 199]⟩ by kernel_rfl] at h
  exact h
theorem tell_b0 (HBL : BlockOK) : Tells 16 #[.string ⟨#[0, 1, 2, 3, 4, 5, 6, 7, 8, 9, 10, 11, 12, 13, 14, 15, 16, 17, 18, 19, 20, 21, 22, 23, 24, 25, 26, 27, 28, 29, 30, 31]⟩, .string ⟨#[0, 0, 0, 9, 0, 0, 0, 74, 0, 0, 0, 0]⟩, .int .i64 1] (.tuple #[.string ⟨#[16, 241, 231, 228, 209, 59, 89, 21, 80, 15, 221, 31, 163, 32, 113, 196, 199, 209, 244, 199, 51, 192, 104, 3, 4, 34, 170, 154, 195, 212, 108, 78, 210, 130, 100, 70, 7, 159, 170, 9, 20, 194, 215, 5, 217, 139, 2, 162, 181, 18, 156, 209, 222, 22, 78, 185, 203, 208, 131, 232, 162, 80, 60, 78]⟩, .int .i64 0]) := fun w _ _ _ => by
  have h := HBL ⟨#[0, 1, 2, 3, 4, 5, 6, 7, 8, 9, 10, 11, 12, 13, 14, 15, 16, 17, 18, 19, 20, 21, 22, 23, 24, 25, 26, 27, 28, 29, 30, 31]⟩ ⟨#[0, 0, 0, 9, 0, 0, 0, 74, 0, 0, 0, 0]⟩ 1 w (by decide) (by decide)
  have ha : Cha.blockAns ⟨#[0, 1, 2, 3, 4, 5, 6, 7, 8, 9, 10, 11, 12, 13, 14, 15, 16, 17, 18, 19, 20, 21, 22, 23, 24, 25, 26, 27, 28, 29, 30, 31]⟩ ⟨#[0, 0, 0, 9, 0, 0, 0, 74, 0, 0, 0, 0]⟩ 1 = (Cha.block [0, 1, 2, 3, 4, 5, 6, 7, 8, 9, 10, 11, 12, 13, 14, 15, 16, 17, 18, 19, 20, 21, 22, 23, 24, 25, 26, 27, 28, 29, 30, 31] [0, 0, 0, 9, 0, 0, 0, 74, 0, 0, 0, 0] 1, 0) := by
    unfold Cha.blockAns
    rw [if_neg (by decide), if_neg (by decide)]
    rfl
  rw [ha, gold_b0] at h
  exact h
theorem tell_t0 (HPT : PTagOK) : Tells 17 #[.string ⟨#[133, 214, 190, 120, 87, 85, 109, 51, 127, 68, 82, 254, 66, 213, 6, 168, 1, 3, 128, 138, 251, 13, 178, 253, 74, 191, 246, 175, 65, 73, 245, 27]⟩, .string ⟨#[67, 114, 121, 112, 116, 111, 103, 114, 97, 112, 104, 105, 99, 32, 70, 111, 114, 117, 109, 32, 82, 101, 115, 101, 97, 114, 99, 104, 32, 71, 114, 111, 117, 112]⟩] (.tuple #[.string ⟨#[168, 6, 29, 193, 48, 81, 54, 198, 194, 43, 139, 175, 12, 1, 39, 169]⟩, .int .i64 0]) := fun w _ _ _ => by
  have h := HPT ⟨#[133, 214, 190, 120, 87, 85, 109, 51, 127, 68, 82, 254, 66, 213, 6, 168, 1, 3, 128, 138, 251, 13, 178, 253, 74, 191, 246, 175, 65, 73, 245, 27]⟩ ⟨#[67, 114, 121, 112, 116, 111, 103, 114, 97, 112, 104, 105, 99, 32, 70, 111, 114, 117, 109, 32, 82, 101, 115, 101, 97, 114, 99, 104, 32, 71, 114, 111, 117, 112]⟩ w (by decide)
  have ha : Pol.tagAns ⟨#[133, 214, 190, 120, 87, 85, 109, 51, 127, 68, 82, 254, 66, 213, 6, 168, 1, 3, 128, 138, 251, 13, 178, 253, 74, 191, 246, 175, 65, 73, 245, 27]⟩ ⟨#[67, 114, 121, 112, 116, 111, 103, 114, 97, 112, 104, 105, 99, 32, 70, 111, 114, 117, 109, 32, 82, 101, 115, 101, 97, 114, 99, 104, 32, 71, 114, 111, 117, 112]⟩ = (Pol.tag [133, 214, 190, 120, 87, 85, 109, 51, 127, 68, 82, 254, 66, 213, 6, 168, 1, 3, 128, 138, 251, 13, 178, 253, 74, 191, 246, 175, 65, 73, 245, 27] [67, 114, 121, 112, 116, 111, 103, 114, 97, 112, 104, 105, 99, 32, 70, 111, 114, 117, 109, 32, 82, 101, 115, 101, 97, 114, 99, 104, 32, 71, 114, 111, 117, 112], 0) := by
    unfold Pol.tagAns
    rw [if_neg (by decide)]
  rw [ha, gold_t0] at h
  exact h
theorem tell_s0 (HSE : SealOK) : Tells 18 #[.string ⟨#[128, 129, 130, 131, 132, 133, 134, 135, 136, 137, 138, 139, 140, 141, 142, 143, 144, 145, 146, 147, 148, 149, 150, 151, 152, 153, 154, 155, 156, 157, 158, 159]⟩, .string ⟨#[7, 0, 0, 0, 64, 65, 66, 67, 68, 69, 70, 71]⟩, .string ⟨#[80, 81, 82, 83, 192, 193, 194, 195, 196, 197, 198, 199]⟩, .string ⟨#[76, 97, 100, 105, 101, 115, 32, 97, 110, 100, 32, 71, 101, 110, 116, 108, 101, 109, 101, 110, 32, 111, 102, 32, 116, 104, 101, 32, 99, 108, 97, 115, 115, 32, 111, 102, 32, 39, 57, 57, 58, 32, 73, 102, 32, 73, 32, 99, 111, 117, 108, 100, 32, 111, 102, 102, 101, 114, 32, 121, 111, 117, 32, 111, 110, 108, 121, 32, 111, 110, 101, 32, 116, 105, 112, 32, 102, 111, 114, 32, 116, 104, 101, 32, 102, 117, 116, 117, 114, 101, 44, 32, 115, 117, 110, 115, 99, 114, 101, 101, 110, 32, 119, 111, 117, 108, 100, 32, 98, 101, 32, 105, 116, 46]⟩] (.tuple #[.string ⟨#[211, 26, 141, 52, 100, 142, 96, 219, 123, 134, 175, 188, 83, 239, 126, 194, 164, 173, 237, 81, 41, 110, 8, 254, 169, 226, 181, 167, 54, 238, 98, 214, 61, 190, 164, 94, 140, 169, 103, 18, 130, 250, 251, 105, 218, 146, 114, 139, 26, 113, 222, 10, 158, 6, 11, 41, 5, 214, 165, 182, 126, 205, 59, 54, 146, 221, 189, 127, 45, 119, 139, 140, 152, 3, 174, 227, 40, 9, 27, 88, 250, 179, 36, 228, 250, 214, 117, 148, 85, 133, 128, 139, 72, 49, 215, 188, 63, 244, 222, 240, 142, 75, 122, 157, 229, 118, 210, 101, 134, 206, 198, 75, 97, 22, 26, 225, 11, 89, 79, 9, 226, 106, 126, 144, 46, 203, 208, 96, 6, 145]⟩, .int .i64 0]) := fun w _ _ _ => by
  have h := HSE ⟨#[128, 129, 130, 131, 132, 133, 134, 135, 136, 137, 138, 139, 140, 141, 142, 143, 144, 145, 146, 147, 148, 149, 150, 151, 152, 153, 154, 155, 156, 157, 158, 159]⟩ ⟨#[7, 0, 0, 0, 64, 65, 66, 67, 68, 69, 70, 71]⟩ ⟨#[80, 81, 82, 83, 192, 193, 194, 195, 196, 197, 198, 199]⟩ ⟨#[76, 97, 100, 105, 101, 115, 32, 97, 110, 100, 32, 71, 101, 110, 116, 108, 101, 109, 101, 110, 32, 111, 102, 32, 116, 104, 101, 32, 99, 108, 97, 115, 115, 32, 111, 102, 32, 39, 57, 57, 58, 32, 73, 102, 32, 73, 32, 99, 111, 117, 108, 100, 32, 111, 102, 102, 101, 114, 32, 121, 111, 117, 32, 111, 110, 108, 121, 32, 111, 110, 101, 32, 116, 105, 112, 32, 102, 111, 114, 32, 116, 104, 101, 32, 102, 117, 116, 117, 114, 101, 44, 32, 115, 117, 110, 115, 99, 114, 101, 101, 110, 32, 119, 111, 117, 108, 100, 32, 98, 101, 32, 105, 116, 46]⟩ w (by decide) (by decide)
  have ha : Box.sealAns ⟨#[128, 129, 130, 131, 132, 133, 134, 135, 136, 137, 138, 139, 140, 141, 142, 143, 144, 145, 146, 147, 148, 149, 150, 151, 152, 153, 154, 155, 156, 157, 158, 159]⟩ ⟨#[7, 0, 0, 0, 64, 65, 66, 67, 68, 69, 70, 71]⟩ ⟨#[80, 81, 82, 83, 192, 193, 194, 195, 196, 197, 198, 199]⟩ ⟨#[76, 97, 100, 105, 101, 115, 32, 97, 110, 100, 32, 71, 101, 110, 116, 108, 101, 109, 101, 110, 32, 111, 102, 32, 116, 104, 101, 32, 99, 108, 97, 115, 115, 32, 111, 102, 32, 39, 57, 57, 58, 32, 73, 102, 32, 73, 32, 99, 111, 117, 108, 100, 32, 111, 102, 102, 101, 114, 32, 121, 111, 117, 32, 111, 110, 108, 121, 32, 111, 110, 101, 32, 116, 105, 112, 32, 102, 111, 114, 32, 116, 104, 101, 32, 102, 117, 116, 117, 114, 101, 44, 32, 115, 117, 110, 115, 99, 114, 101, 101, 110, 32, 119, 111, 117, 108, 100, 32, 98, 101, 32, 105, 116, 46]⟩ = (Box.sealed [128, 129, 130, 131, 132, 133, 134, 135, 136, 137, 138, 139, 140, 141, 142, 143, 144, 145, 146, 147, 148, 149, 150, 151, 152, 153, 154, 155, 156, 157, 158, 159] [7, 0, 0, 0, 64, 65, 66, 67, 68, 69, 70, 71] [80, 81, 82, 83, 192, 193, 194, 195, 196, 197, 198, 199] [76, 97, 100, 105, 101, 115, 32, 97, 110, 100, 32, 71, 101, 110, 116, 108, 101, 109, 101, 110, 32, 111, 102, 32, 116, 104, 101, 32, 99, 108, 97, 115, 115, 32, 111, 102, 32, 39, 57, 57, 58, 32, 73, 102, 32, 73, 32, 99, 111, 117, 108, 100, 32, 111, 102, 102, 101, 114, 32, 121, 111, 117, 32, 111, 110, 108, 121, 32, 111, 110, 101, 32, 116, 105, 112, 32, 102, 111, 114, 32, 116, 104, 101, 32, 102, 117, 116, 117, 114, 101, 44, 32, 115, 117, 110, 115, 99, 114, 101, 101, 110, 32, 119, 111, 117, 108, 100, 32, 98, 101, 32, 105, 116, 46], 0) := by
    unfold Box.sealAns
    rw [if_neg (by decide)]
  rw [ha, gold_s0] at h
  exact h
end Go.Proofs.YtpogfcfgbnccjaaDoor
