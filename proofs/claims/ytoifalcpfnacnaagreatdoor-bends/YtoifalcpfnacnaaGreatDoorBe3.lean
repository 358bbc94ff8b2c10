import Derived.Lib.AppendStr
import Derived.Test.YtoifalcpfnacnaaGreatDoorBe2
namespace Go.Proofs.YtoifalcpfnacnaaGreatDoor
open Go.RowKit
theorem laidOver_cons (cs:List Value) (o:Nat) (v:Value) (r:List Value) (hl:o<cs.length):laidOver (cs.set o v) (o+1) r=laidOver cs o (v::r):=by
 unfold laidOver
 rw[List.take_succ_eq_append_getElem (by simpa using hl),List.getElem_set_self,List.take_set_of_le (Nat.le_refl _),List.drop_set_of_lt (by omega)]
 simp only[List.length_cons,List.append_assoc,List.cons_append,List.nil_append]
 rw[show o+1+r.length=o+(r.length+1) by omega]
theorem foldl_set (off:Nat):∀ (vs:List Value) (k:Nat) (cs:Array Value),off+k+vs.length≤cs.size →
  ((vs.zipIdx k).foldl (fun (cs:Array Value) (x:Value × Nat)=>cs.setIfInBounds (off+x.2) x.1) cs).toList=laidOver cs.toList (off+k) vs
 | [],k,cs,_=>by simp[laidOver]
 | v::r,k,cs,h=>by
  simp only[List.length_cons] at h
  rw[List.zipIdx_cons,List.foldl_cons,foldl_set off r (k+1) _ (by simp;omega)]
  show laidOver (cs.setIfInBounds (off+k) v).toList (off+(k+1)) r=_
  rw[Array.toList_setIfInBounds]
  exact laidOver_cons cs.toList (off+k) v r (by simp;omega)
theorem foldl_arr (off:Nat) (vs cs:Array Value) (h:off+vs.size≤cs.size):
  vs.zipIdx.foldl (fun (cs:Array Value) (x:Value × Nat)=>cs.setIfInBounds (off+x.2) x.1) cs=(laidOver cs.toList off vs.toList).toArray:=by
 rw[←Array.foldl_toList,Array.toList_zipIdx]
 apply Array.toList_inj.1
 rw[foldl_set off vs.toList 0 cs (by simpa using h)]
 simp
def zMac:List Value:=hcells zst z64 0++hcells zst z64 0
theorem zMac_len:zMac.length=146:=by rw[zMac,List.length_append,hcells_len zst z64 0 rfl]
theorem laid_two (z a b:List Value) (hz:z.length=146) (ha:a.length=73) (hb:b.length=73):laidOver (laidOver z 0 a) 73 b=a++b:=by
 have h1:laidOver z 0 a=a++z.drop 73:=by unfold laidOver;simp[ha]
 rw[h1]
 unfold laidOver
 rw[List.take_left' ha,List.drop_eq_nil_of_le (by simp[ha,hb,hz]),List.append_nil]
theorem fill_two (z a b:List Value) (hz:z.length=146) (ha:a.length=73) (hb:b.length=73):
  Instr.fill (fun i=>([(0,73),(73,73)]:List (Nat × Nat)).toArray[i]?) z.toArray [(0,.agg a.toArray),(1,.agg b.toArray)]=some (a++b).toArray:=by
 have e1:=foldl_arr 0 a.toArray z.toArray (by simp[ha,hz])
 have hl:(laidOver z 0 a).length=146:=by simp[laidOver,ha,hz]
 have e2:=foldl_arr 73 b.toArray (laidOver z 0 a).toArray (by rw[List.size_toArray,List.size_toArray,hb,hl];decide)
 simp only at e1 e2
 rw[laid_two z a b hz ha hb] at e2
 unfold Instr.fill
 simp only[Value.cells]
 rw[show ([(0,73),(73,73)]:List (Nat × Nat)).toArray[0]? = some (0,73) from rfl]
 simp only[List.size_toArray,ha,hz]
 rw[if_neg (by decide),e1]
 unfold Instr.fill
 simp only[Value.cells]
 rw[show ([(0,73),(73,73)]:List (Nat × Nat)).toArray[1]? = some (73,73) from rfl]
 simp only[List.size_toArray,hb,hl]
 rw[if_neg (by decide),e2]
 rfl
theorem built_struct {P:Program} {t:TypeId} {it:TypeInfo} {z:Value} {places:List (Nat × Nat)} {fs:Array Field} (hi:P.info? t=some it) (hu:P.underlying t=some (.struct fs)) (hz:it.zero=some z)
  (hp:fs.toList.mapM (fun f=>(P.info? f.type).map fun i=>(f.offset,i.size))=some places) (parts:List (Nat × Value)):P.built t parts=Instr.fill (fun i=>places.toArray[i]?) z.cells parts:=by
 unfold Program.built
 simp only[hi,hu,hz,hp]
theorem infoMacZ:(Tryz.prog.info? 173).map (·.zero)=some (some (.agg zMac.toArray)):=by kernel_rfl
theorem placesMac:∃ fs,Tryz.prog.underlying 173=some (.struct fs)∧fs.toList.mapM (fun f=>(Tryz.prog.info? f.type).map fun i=>(f.offset,i.size))=some [(0,73),(73,73)]:=⟨_,Tryz.underlying173,by kernel_rfl⟩
theorem built_mac (a b:List Value) (ha:a.length=73) (hb:b.length=73) (w:World):(Instr.build 173 #[(0,.agg a.toArray),(1,.agg b.toArray)]).run Tryz.prog w = .ok (.agg (a++b).toArray) w:=by
 refine run_build w 173 _ _ ?_
 obtain ⟨it,hi,hz⟩:=Option.map_eq_some_iff.1 infoMacZ
 obtain ⟨fs,hu,hp⟩:=placesMac
 rw[built_struct hi hu hz hp]
 exact fill_two zMac a b zMac_len ha hb
theorem step_run {P:Program} {ops:Array Oper} {o:Oper} {a:Act} {w:World} {K:Act→World→Prop} {Q:Exit→Act→World→Prop} {E:Prop} (hg:o.guard=none) (v:Value) (w':World)
  (hr:(execOp a.eval o).run P w = .ok (.value v) w') (hK:K (a.put o.dst v) w'):if Region.wanted o (yielded ops a.tmps)=true then Oper.wp P o a w K Q else E:=by
 rw[if_pos (by simp[Region.wanted,hg])]
 unfold Oper.wp
 rw[hr]
 exact hK
theorem run_build2 {P:Program} {a:Act} {o:Oper} {w:World} (t:TypeId) (x y:Operand) (h:o.op = .build t #[(0,x),(1,y)]) {u v r:Value} (hx:a.eval x=u) (hy:a.eval y=v) (hr:(Instr.build t #[(0,u),(1,v)]).run P w = .ok r w):(execOp a.eval o).run P w = .ok (.value r) w:=by
 subst hx hy
 simp[execOp,h,hr]
theorem run_box2 {P:Program} {a:Act} {o:Oper} {w:World} (t:TypeId) (x:Operand) (h:o.op = .box t x) {cs:Array Value} (hx:a.eval x = .agg cs):(execOp a.eval o).run P w = .ok (.value (.pointer (some ⟨w.heap.size,0,none⟩))) (w.alloc (.cells cs t)):=by
 simp[execOp,h,hx,Instr.box,newVar,newRow,Value.cells]
theorem run_assign {P:Program} {a:Act} {o:Oper} {w:World} (x:Operand) (h:o.op = .assign x) {v:Value} (hx:a.eval x=v):(execOp a.eval o).run P w = .ok (.value v) w:=by
 subst hx
 simp[execOp,h]
set_option maxRecDepth 100000 in
set_option maxHeartbeats 800000 in
theorem kbegin_short (key:ByteArray) (w:World) (hl:key.size≤64) (hk:KTab w) (hH:HTab w) (h2:2≤w.heap.size):
  Calls Tryz.prog 87 #[.string key] w fun e w'=>∃ b,e = .returned (.pointer (some ⟨b,0,none⟩))∧w.heap.size≤b∧MRep w' b 173 key.data.toList []∧Below w.heap.size w w':=by
 have hkl:key.data.toList.length=key.size:=by rw[Array.length_toList];rfl
 have hp1:=padL_short key.data.toList 0x36 (by omega)
 have hp2:=padL_short key.data.toList 0x5c (by omega)
 have HP1:=hide hp1
 have HP2:=hide hp2
 clear hp1 hp2 hkl
 have jl:¬ (64:Int)<(key.size:Int):=by omega
 go_enter Tryz.func87,Tryz.ntmps87
 go_wp2_with fail
 refine (begun_any key 0x36 _ hl hk hH h2).mono ?_
 rintro e w1 ⟨b1,rfl,hge1,hr1,hb1⟩
 have hk1:=hk.below hb1 h2
 have hH1:=hH.below hb1 h2
 have hs1:=hb1.size
 rw[←HP1.out] at hr1
 have hl1:=hr1.lt
 clear hk hH
 go_wp2_with fail
 refine (begun_any key 0x5c _ hl hk1 hH1 (by omega)).mono ?_
 rintro e w2 ⟨b2,rfl,hge2,hr2,hb2⟩
 have hr12:=hr1.below hb2 hl1
 rw[←HP2.out] at hr2
 have HB:=hide (hb1.trans (hb2.mono hs1))
 have hge:w.heap.size≤w2.heap.size:=by have:=hb2.size;omega
 obtain ⟨k1,q1,q2,hB1⟩:=hr12
 obtain ⟨k2,q3,q4,hB2⟩:=hr2
 have r1:=hcells_range q1 hB1
 have r2:=hcells_range q3 hB2
 have n1:=hcells_len (Sha.comps (padL key.data.toList 0x36) ((padL key.data.toList 0x36).length/64)) k1 (padL key.data.toList 0x36).length q1
 have n2:=hcells_len (Sha.comps (padL key.data.toList 0x5c) ((padL key.data.toList 0x5c).length/64)) k2 (padL key.data.toList 0x5c).length q3
 have HM:=hide (show ∀ w',Blk w' w2.heap.size 173 (hcells (Sha.comps (padL key.data.toList 0x36) ((padL key.data.toList 0x36).length/64)) k1 (padL key.data.toList 0x36).length++hcells (Sha.comps (padL key.data.toList 0x5c) ((padL key.data.toList 0x5c).length/64)) k2 (padL key.data.toList 0x5c).length)→MRep w' w2.heap.size 173 key.data.toList [] from fun w' hB=>⟨_,_,n1,n2,⟨k1,q1,by simpa using q2,by simpa using hB⟩,⟨k2,q3,q4,by simpa using hB⟩⟩)
 generalize hcells (Sha.comps (padL key.data.toList 0x36) ((padL key.data.toList 0x36).length/64)) k1 (padL key.data.toList 0x36).length=ci at *
 generalize hcells (Sha.comps (padL key.data.toList 0x5c) ((padL key.data.toList 0x5c).length/64)) k2 (padL key.data.toList 0x5c).length=co at *
 have hbd:=built_mac ci co n1 n2
 have s1:(Tryz.prog.info? 171).map (·.size)=some ci.length:=by rw[infoHash,n1]
 have s2:(Tryz.prog.info? 171).map (·.size)=some co.length:=by rw[infoHash,n2]
 have R1:=hide r1
 have R2:=hide r2
 have S1:=hide s1
 have S2:=hide s2
 clear hk1 hH1 hr1 hb1 hb2 hB1 hB2 q1 q2 q3 q4 r1 r2 n1 n2 s1 s2 HP1 HP2 k1 k2
 have HBD:=hide hbd
 clear hbd
 go_wp2
 rename_i K0 back
 refine wp_letter2 3 4 (fun A h3 h4 hz hd=>?_)
 have a3:A.eval (.tmp 3) = .pointer (some ⟨b1,0,none⟩):=h3
 have a4:A.eval (.tmp 4) = .pointer (some ⟨b2,0,none⟩):=h4
 have az:A.tmps.size=22:=hz
 have ad:A.defers=[]:=hd
 clear h3 h4 hz hd
 refine wp_region_any (by kernel_rfl) ?_
 change wpAny _ _ _ _ _ _ _ (World.drew _)
 refine wpAny_take (i:=0) (v:=.pointer (some ⟨b1,0,none⟩)) rfl (by kernel_rfl) (by kernel_rfl) (by kernel_rfl) (fun _ _ _ h=>h) (Or.inl ⟨by rfl,fun w=>?_⟩) ?_
 ·rw[run_move (.tmp 3) rfl,a3]
 change wpAny _ _ _ _ _ _ (Act.put _ (some 14) _) _
 have b14:(A.put (some 14) (.pointer (some ⟨b1,0,none⟩))).eval (.tmp 14) = .pointer (some ⟨b1,0,none⟩):=Act.eval_same _ _ _ (by rw[az];decide)
 have b4:(A.put (some 14) (.pointer (some ⟨b1,0,none⟩))).eval (.tmp 4) = .pointer (some ⟨b2,0,none⟩):=(Act.eval_other _ _ _ _ (by decide)).trans a4
 have bz:(A.put (some 14) (.pointer (some ⟨b1,0,none⟩))).tmps.size=22:=by rw[Act.put_size,az]
 have bd:(A.put (some 14) (.pointer (some ⟨b1,0,none⟩))).defers=[]:=by rw[Act.put_defers',ad]
 generalize A.put (some 14) (.pointer (some ⟨b1,0,none⟩))=B at *
 clear a3 a4 az ad A
 refine wpAny_take (i:=1) (v:=.pointer (some ⟨b1,0,none⟩)) rfl (by kernel_rfl) (by kernel_rfl) (by kernel_rfl) (fun _ _ _ h=>h) (Or.inl ⟨by rfl,fun w=>?_⟩) ?_
 ·exact run_nilCheck (.tmp 14) _ rfl b14
 change wpAny _ _ _ _ _ _ (Act.put _ (some 15) _) _
 have c15:(B.put (some 15) (.pointer (some ⟨b1,0,none⟩))).eval (.tmp 15) = .pointer (some ⟨b1,0,none⟩):=Act.eval_same _ _ _ (by rw[bz];decide)
 have c4:(B.put (some 15) (.pointer (some ⟨b1,0,none⟩))).eval (.tmp 4) = .pointer (some ⟨b2,0,none⟩):=(Act.eval_other _ _ _ _ (by decide)).trans b4
 have cz:(B.put (some 15) (.pointer (some ⟨b1,0,none⟩))).tmps.size=22:=by rw[Act.put_size,bz]
 have cd:(B.put (some 15) (.pointer (some ⟨b1,0,none⟩))).defers=[]:=by rw[Act.put_defers',bd]
 generalize B.put (some 15) (.pointer (some ⟨b1,0,none⟩))=C at *
 clear b14 b4 bz bd B
 refine wpAny_take (i:=3) (v:=.pointer (some ⟨b2,0,none⟩)) rfl (by kernel_rfl) (by kernel_rfl) (by kernel_rfl) (fun _ _ _ h=>h) (Or.inl ⟨by rfl,fun w=>?_⟩) ?_
 ·rw[run_move (.tmp 4) rfl,c4]
 change wpAny _ _ _ _ _ _ (Act.put _ (some 17) _) _
 have d15:(C.put (some 17) (.pointer (some ⟨b2,0,none⟩))).eval (.tmp 15) = .pointer (some ⟨b1,0,none⟩):=(Act.eval_other _ _ _ _ (by decide)).trans c15
 have d17:(C.put (some 17) (.pointer (some ⟨b2,0,none⟩))).eval (.tmp 17) = .pointer (some ⟨b2,0,none⟩):=Act.eval_same _ _ _ (by rw[cz];decide)
 have dz:(C.put (some 17) (.pointer (some ⟨b2,0,none⟩))).tmps.size=22:=by rw[Act.put_size,cz]
 have dd:(C.put (some 17) (.pointer (some ⟨b2,0,none⟩))).defers=[]:=by rw[Act.put_defers',cd]
 generalize C.put (some 17) (.pointer (some ⟨b2,0,none⟩))=D at *
 clear c15 c4 cz cd C
 refine wpAny_take (i:=4) (v:=.pointer (some ⟨b2,0,none⟩)) rfl (by kernel_rfl) (by kernel_rfl) (by kernel_rfl) (fun _ _ _ h=>h) (Or.inl ⟨by rfl,fun w=>?_⟩) ?_
 ·exact run_nilCheck (.tmp 17) _ rfl d17
 change wpAny _ _ _ _ _ _ (Act.put _ (some 18) _) _
 have e15:(D.put (some 18) (.pointer (some ⟨b2,0,none⟩))).eval (.tmp 15) = .pointer (some ⟨b1,0,none⟩):=(Act.eval_other _ _ _ _ (by decide)).trans d15
 have e18:(D.put (some 18) (.pointer (some ⟨b2,0,none⟩))).eval (.tmp 18) = .pointer (some ⟨b2,0,none⟩):=Act.eval_same _ _ _ (by rw[dz];decide)
 have ez:(D.put (some 18) (.pointer (some ⟨b2,0,none⟩))).tmps.size=22:=by rw[Act.put_size,dz]
 have ed:(D.put (some 18) (.pointer (some ⟨b2,0,none⟩))).defers=[]:=by rw[Act.put_defers',dd]
 generalize D.put (some 18) (.pointer (some ⟨b2,0,none⟩))=E at *
 clear d15 d17 dz dd D
 refine wpAny_ready (rs:=[2,5]) (by kernel_rfl) (by simp) ?_
 refine AllReady.cons rfl (fun K hK=>?_) (AllReady.cons rfl (fun K hK=>?_) AllReady.nil)
 ·refine step_load_mid rfl 171 (.tmp 15) rfl b1 0 e15 ci _ R1.out Tryz.underlying171 rfl S1.out ?_
  refine hK _ _ ?_
  clear hK K
  change wpAny _ _ _ _ _ _ (Act.put _ (some 16) _) _
  have f16:(E.put (some 16) (.agg ci.toArray)).eval (.tmp 16) = .agg ci.toArray:=Act.eval_same _ _ _ (by rw[ez];decide)
  have f18:(E.put (some 16) (.agg ci.toArray)).eval (.tmp 18) = .pointer (some ⟨b2,0,none⟩):=(Act.eval_other _ _ _ _ (by decide)).trans e18
  have fz:(E.put (some 16) (.agg ci.toArray)).tmps.size=22:=by rw[Act.put_size,ez]
  have fd:(E.put (some 16) (.agg ci.toArray)).defers=[]:=by rw[Act.put_defers',ed]
  generalize E.put (some 16) (.agg ci.toArray)=F at *
  clear e15 e18 ez ed E
  refine wpAny_ready (rs:=[5]) (by kernel_rfl) (by simp) ?_
  refine AllReady.cons rfl (fun K hK=>?_) AllReady.nil
  refine step_load_mid rfl 171 (.tmp 18) rfl b2 0 f18 co _ R2.out Tryz.underlying171 rfl S2.out ?_
  refine hK _ _ ?_
  clear hK K
  change wpAny _ _ _ _ _ _ (Act.put _ (some 19) _) _
  have g16:(F.put (some 19) (.agg co.toArray)).eval (.tmp 16) = .agg ci.toArray:=(Act.eval_other _ _ _ _ (by decide)).trans f16
  have g19:(F.put (some 19) (.agg co.toArray)).eval (.tmp 19) = .agg co.toArray:=Act.eval_same _ _ _ (by rw[fz];decide)
  have gz:(F.put (some 19) (.agg co.toArray)).tmps.size=22:=by rw[Act.put_size,fz]
  have gd:(F.put (some 19) (.agg co.toArray)).defers=[]:=by rw[Act.put_defers',fd]
  generalize F.put (some 19) (.agg co.toArray)=G at *
  clear f16 f18 fz fd F
  refine wpAny_ready (rs:=[6]) (by kernel_rfl) (by simp) ?_
  refine AllReady.cons rfl (fun K hK=>?_) AllReady.nil
  refine step_run rfl (.agg (ci++co).toArray) _ (run_build2 173 (.tmp 16) (.tmp 19) rfl g16 g19 (HBD.out _)) ?_
  refine hK _ _ ?_
  clear hK K
  change wpAny _ _ _ _ _ _ (Act.put _ (some 20) _) _
  have i20:(G.put (some 20) (.agg (ci++co).toArray)).eval (.tmp 20) = .agg (ci++co).toArray:=Act.eval_same _ _ _ (by rw[gz];decide)
  have iz:(G.put (some 20) (.agg (ci++co).toArray)).tmps.size=22:=by rw[Act.put_size,gz]
  have id:(G.put (some 20) (.agg (ci++co).toArray)).defers=[]:=by rw[Act.put_defers',gd]
  generalize G.put (some 20) (.agg (ci++co).toArray)=I at *
  clear g16 g19 gz gd G
  refine wpAny_ready (rs:=[7]) (by kernel_rfl) (by simp) ?_
  refine AllReady.cons rfl (fun K hK=>?_) AllReady.nil
  refine step_run rfl (.pointer (some ⟨w2.heap.size,0,none⟩)) (w2.drew.alloc (.cells (ci++co).toArray 173)) (run_box2 173 (.tmp 20) rfl i20) ?_
  refine hK _ _ ?_
  clear hK K
  change wpAny _ _ _ _ _ _ (Act.put _ (some 21) _) _
  have j21:(I.put (some 21) (.pointer (some ⟨w2.heap.size,0,none⟩))).eval (.tmp 21) = .pointer (some ⟨w2.heap.size,0,none⟩):=Act.eval_same _ _ _ (by rw[iz];decide)
  have jz:(I.put (some 21) (.pointer (some ⟨w2.heap.size,0,none⟩))).tmps.size=22:=by rw[Act.put_size,iz]
  have jd:(I.put (some 21) (.pointer (some ⟨w2.heap.size,0,none⟩))).defers=[]:=by rw[Act.put_defers',id]
  generalize I.put (some 21) (.pointer (some ⟨w2.heap.size,0,none⟩))=J at *
  clear i20 iz id I
  refine wpAny_ready (rs:=[8]) (by kernel_rfl) (by simp) ?_
  refine AllReady.cons rfl (fun K hK=>?_) AllReady.nil
  refine step_run rfl (.pointer (some ⟨w2.heap.size,0,none⟩)) _ (run_assign (.tmp 21) rfl j21) ?_
  refine hK _ _ ?_
  clear hK K
  change wpAny _ _ _ _ _ _ (Act.put _ (some 2) _) _
  have u2:(J.put (some 2) (.pointer (some ⟨w2.heap.size,0,none⟩))).eval (.tmp 2) = .pointer (some ⟨w2.heap.size,0,none⟩):=Act.eval_same _ _ _ (by rw[jz];decide)
  have uz:(J.put (some 2) (.pointer (some ⟨w2.heap.size,0,none⟩))).tmps.size=22:=by rw[Act.put_size,jz]
  have ud:(J.put (some 2) (.pointer (some ⟨w2.heap.size,0,none⟩))).defers=[]:=by rw[Act.put_defers',jd]
  generalize J.put (some 2) (.pointer (some ⟨w2.heap.size,0,none⟩))=U at *
  refine wpAny_done (by kernel_rfl) ?_ _
  refine back _ _ (wp_ret ?_)
  refine bodyPost_ret (results_tmp rfl _ _ _) ud ?_
  refine ⟨w2.heap.size,congrArg Ending.returned u2,hge,HM.out _ (Blk.new rfl rfl),HB.out.drew.alloc hge _⟩
 ·refine step_load_mid rfl 171 (.tmp 18) rfl b2 0 e18 co _ R2.out Tryz.underlying171 rfl S2.out ?_
  refine hK _ _ ?_
  clear hK K
  change wpAny _ _ _ _ _ _ (Act.put _ (some 19) _) _
  have f19:(E.put (some 19) (.agg co.toArray)).eval (.tmp 19) = .agg co.toArray:=Act.eval_same _ _ _ (by rw[ez];decide)
  have f15:(E.put (some 19) (.agg co.toArray)).eval (.tmp 15) = .pointer (some ⟨b1,0,none⟩):=(Act.eval_other _ _ _ _ (by decide)).trans e15
  have fz:(E.put (some 19) (.agg co.toArray)).tmps.size=22:=by rw[Act.put_size,ez]
  have fd:(E.put (some 19) (.agg co.toArray)).defers=[]:=by rw[Act.put_defers',ed]
  generalize E.put (some 19) (.agg co.toArray)=F at *
  clear e15 e18 ez ed E
  refine wpAny_ready (rs:=[2]) (by kernel_rfl) (by simp) ?_
  refine AllReady.cons rfl (fun K hK=>?_) AllReady.nil
  refine step_load_mid rfl 171 (.tmp 15) rfl b1 0 f15 ci _ R1.out Tryz.underlying171 rfl S1.out ?_
  refine hK _ _ ?_
  clear hK K
  change wpAny _ _ _ _ _ _ (Act.put _ (some 16) _) _
  have g19:(F.put (some 16) (.agg ci.toArray)).eval (.tmp 19) = .agg co.toArray:=(Act.eval_other _ _ _ _ (by decide)).trans f19
  have g16:(F.put (some 16) (.agg ci.toArray)).eval (.tmp 16) = .agg ci.toArray:=Act.eval_same _ _ _ (by rw[fz];decide)
  have gz:(F.put (some 16) (.agg ci.toArray)).tmps.size=22:=by rw[Act.put_size,fz]
  have gd:(F.put (some 16) (.agg ci.toArray)).defers=[]:=by rw[Act.put_defers',fd]
  generalize F.put (some 16) (.agg ci.toArray)=G at *
  clear f19 f15 fz fd F
  refine wpAny_ready (rs:=[6]) (by kernel_rfl) (by simp) ?_
  refine AllReady.cons rfl (fun K hK=>?_) AllReady.nil
  refine step_run rfl (.agg (ci++co).toArray) _ (run_build2 173 (.tmp 16) (.tmp 19) rfl g16 g19 (HBD.out _)) ?_
  refine hK _ _ ?_
  clear hK K
  change wpAny _ _ _ _ _ _ (Act.put _ (some 20) _) _
  have i20:(G.put (some 20) (.agg (ci++co).toArray)).eval (.tmp 20) = .agg (ci++co).toArray:=Act.eval_same _ _ _ (by rw[gz];decide)
  have iz:(G.put (some 20) (.agg (ci++co).toArray)).tmps.size=22:=by rw[Act.put_size,gz]
  have id:(G.put (some 20) (.agg (ci++co).toArray)).defers=[]:=by rw[Act.put_defers',gd]
  generalize G.put (some 20) (.agg (ci++co).toArray)=I at *
  clear g16 g19 gz gd G
  refine wpAny_ready (rs:=[7]) (by kernel_rfl) (by simp) ?_
  refine AllReady.cons rfl (fun K hK=>?_) AllReady.nil
  refine step_run rfl (.pointer (some ⟨w2.heap.size,0,none⟩)) (w2.drew.alloc (.cells (ci++co).toArray 173)) (run_box2 173 (.tmp 20) rfl i20) ?_
  refine hK _ _ ?_
  clear hK K
  change wpAny _ _ _ _ _ _ (Act.put _ (some 21) _) _
  have j21:(I.put (some 21) (.pointer (some ⟨w2.heap.size,0,none⟩))).eval (.tmp 21) = .pointer (some ⟨w2.heap.size,0,none⟩):=Act.eval_same _ _ _ (by rw[iz];decide)
  have jz:(I.put (some 21) (.pointer (some ⟨w2.heap.size,0,none⟩))).tmps.size=22:=by rw[Act.put_size,iz]
  have jd:(I.put (some 21) (.pointer (some ⟨w2.heap.size,0,none⟩))).defers=[]:=by rw[Act.put_defers',id]
  generalize I.put (some 21) (.pointer (some ⟨w2.heap.size,0,none⟩))=J at *
  clear i20 iz id I
  refine wpAny_ready (rs:=[8]) (by kernel_rfl) (by simp) ?_
  refine AllReady.cons rfl (fun K hK=>?_) AllReady.nil
  refine step_run rfl (.pointer (some ⟨w2.heap.size,0,none⟩)) _ (run_assign (.tmp 21) rfl j21) ?_
  refine hK _ _ ?_
  clear hK K
  change wpAny _ _ _ _ _ _ (Act.put _ (some 2) _) _
  have u2:(J.put (some 2) (.pointer (some ⟨w2.heap.size,0,none⟩))).eval (.tmp 2) = .pointer (some ⟨w2.heap.size,0,none⟩):=Act.eval_same _ _ _ (by rw[jz];decide)
  have uz:(J.put (some 2) (.pointer (some ⟨w2.heap.size,0,none⟩))).tmps.size=22:=by rw[Act.put_size,jz]
  have ud:(J.put (some 2) (.pointer (some ⟨w2.heap.size,0,none⟩))).defers=[]:=by rw[Act.put_defers',jd]
  generalize J.put (some 2) (.pointer (some ⟨w2.heap.size,0,none⟩))=U at *
  refine wpAny_done (by kernel_rfl) ?_ _
  refine back _ _ (wp_ret ?_)
  refine bodyPost_ret (results_tmp rfl _ _ _) ud ?_
  refine ⟨w2.heap.size,congrArg Ending.returned u2,hge,HM.out _ (Blk.new rfl rfl),HB.out.drew.alloc hge _⟩
set_option maxRecDepth 100000 in
set_option maxHeartbeats 800000 in
theorem kbegin_long (key0:ByteArray) (w0:World) (hl0:64<key0.size) (hlb:key0.size<2 ^ 59) (hk0:KTab w0) (hH0:HTab w0) (h20:2≤w0.heap.size):
  Calls Tryz.prog 87 #[.string key0] w0 fun e w'=>∃ b,e = .returned (.pointer (some ⟨b,0,none⟩))∧w0.heap.size≤b∧MRep w' b 173 key0.data.toList []∧Below w0.heap.size w0 w':=by
 have hkl:key0.data.toList.length=key0.size:=by rw[Array.length_toList];rfl
 have hp1:=padL_long key0.data.toList 0x36 (by omega)
 have hp2:=padL_long key0.data.toList 0x5c (by omega)
 have href:=shaSum_any key0 w0 hlb hk0 hH0 h20
 have hsl:(Sha.sum key0.data.toList).length=32:=Sha.sum_len _
 generalize Sha.sum key0.data.toList=sm at *
 obtain ⟨key,hkey⟩:∃ key:ByteArray,key=⟨sm.toArray⟩:=⟨_,rfl⟩
 have hks:key.data.toList=sm:=by rw[hkey]
 have hl:key.size≤64:=by rw[hkey];show sm.toArray.size≤64;rw[List.size_toArray];omega
 rw[←hkey] at href
 rw[←hks] at hp1 hp2
 have HP1:=hide hp1
 have HP2:=hide hp2
 have HREF:=hide href
 clear hp1 hp2 hkl href hks hkey hsl
 have jl:(64:Int)<(key0.size:Int):=by omega
 go_enter Tryz.func87,Tryz.ntmps87
 go_wp2_with fail
 refine HREF.out.mono ?_
 rintro e w ⟨rfl,hb0⟩
 have hk:=hk0.below hb0 h20
 have hH:=hH0.below hb0 h20
 have h2:2≤w.heap.size:=Nat.le_trans h20 hb0.size
 have HB0:=hide hb0
 clear hb0 hk0 hH0 HREF
 go_wp2_with fail
 refine (begun_any key 0x36 _ hl hk hH h2).mono ?_
 rintro e w1 ⟨b1,rfl,hge1,hr1,hb1⟩
 have hk1:=hk.below hb1 h2
 have hH1:=hH.below hb1 h2
 have hs1:=hb1.size
 rw[←HP1.out] at hr1
 have hl1:=hr1.lt
 clear hk hH
 go_wp2_with fail
 refine (begun_any key 0x5c _ hl hk1 hH1 (by omega)).mono ?_
 rintro e w2 ⟨b2,rfl,hge2,hr2,hb2⟩
 have hr12:=hr1.below hb2 hl1
 rw[←HP2.out] at hr2
 have HB:=hide (HB0.out.trans ((hb1.trans (hb2.mono hs1)).mono HB0.out.size))
 have hge:w0.heap.size≤w2.heap.size:=by have:=hb2.size;have:=HB0.out.size;omega
 obtain ⟨k1,q1,q2,hB1⟩:=hr12
 obtain ⟨k2,q3,q4,hB2⟩:=hr2
 have r1:=hcells_range q1 hB1
 have r2:=hcells_range q3 hB2
 have n1:=hcells_len (Sha.comps (padL key0.data.toList 0x36) ((padL key0.data.toList 0x36).length/64)) k1 (padL key0.data.toList 0x36).length q1
 have n2:=hcells_len (Sha.comps (padL key0.data.toList 0x5c) ((padL key0.data.toList 0x5c).length/64)) k2 (padL key0.data.toList 0x5c).length q3
 have HM:=hide (show ∀ w',Blk w' w2.heap.size 173 (hcells (Sha.comps (padL key0.data.toList 0x36) ((padL key0.data.toList 0x36).length/64)) k1 (padL key0.data.toList 0x36).length++hcells (Sha.comps (padL key0.data.toList 0x5c) ((padL key0.data.toList 0x5c).length/64)) k2 (padL key0.data.toList 0x5c).length)→MRep w' w2.heap.size 173 key0.data.toList [] from fun w' hB=>⟨_,_,n1,n2,⟨k1,q1,by simpa using q2,by simpa using hB⟩,⟨k2,q3,q4,by simpa using hB⟩⟩)
 generalize hcells (Sha.comps (padL key0.data.toList 0x36) ((padL key0.data.toList 0x36).length/64)) k1 (padL key0.data.toList 0x36).length=ci at *
 generalize hcells (Sha.comps (padL key0.data.toList 0x5c) ((padL key0.data.toList 0x5c).length/64)) k2 (padL key0.data.toList 0x5c).length=co at *
 have hbd:=built_mac ci co n1 n2
 have s1:(Tryz.prog.info? 171).map (·.size)=some ci.length:=by rw[infoHash,n1]
 have s2:(Tryz.prog.info? 171).map (·.size)=some co.length:=by rw[infoHash,n2]
 have R1:=hide r1
 have R2:=hide r2
 have S1:=hide s1
 have S2:=hide s2
 clear hk1 hH1 hr1 hb1 hb2 hB1 hB2 q1 q2 q3 q4 r1 r2 n1 n2 s1 s2 HP1 HP2 k1 k2
 have HBD:=hide hbd
 clear hbd
 go_wp2
 rename_i K0 back
 refine wp_letter2 3 4 (fun A h3 h4 hz hd=>?_)
 have a3:A.eval (.tmp 3) = .pointer (some ⟨b1,0,none⟩):=h3
 have a4:A.eval (.tmp 4) = .pointer (some ⟨b2,0,none⟩):=h4
 have az:A.tmps.size=22:=hz
 have ad:A.defers=[]:=hd
 clear h3 h4 hz hd
 refine wp_region_any (by kernel_rfl) ?_
 change wpAny _ _ _ _ _ _ _ (World.drew _)
 refine wpAny_take (i:=0) (v:=.pointer (some ⟨b1,0,none⟩)) rfl (by kernel_rfl) (by kernel_rfl) (by kernel_rfl) (fun _ _ _ h=>h) (Or.inl ⟨by rfl,fun w=>?_⟩) ?_
 ·rw[run_move (.tmp 3) rfl,a3]
 change wpAny _ _ _ _ _ _ (Act.put _ (some 14) _) _
 have b14:(A.put (some 14) (.pointer (some ⟨b1,0,none⟩))).eval (.tmp 14) = .pointer (some ⟨b1,0,none⟩):=Act.eval_same _ _ _ (by rw[az];decide)
 have b4:(A.put (some 14) (.pointer (some ⟨b1,0,none⟩))).eval (.tmp 4) = .pointer (some ⟨b2,0,none⟩):=(Act.eval_other _ _ _ _ (by decide)).trans a4
 have bz:(A.put (some 14) (.pointer (some ⟨b1,0,none⟩))).tmps.size=22:=by rw[Act.put_size,az]
 have bd:(A.put (some 14) (.pointer (some ⟨b1,0,none⟩))).defers=[]:=by rw[Act.put_defers',ad]
 generalize A.put (some 14) (.pointer (some ⟨b1,0,none⟩))=B at *
 clear a3 a4 az ad A
 refine wpAny_take (i:=1) (v:=.pointer (some ⟨b1,0,none⟩)) rfl (by kernel_rfl) (by kernel_rfl) (by kernel_rfl) (fun _ _ _ h=>h) (Or.inl ⟨by rfl,fun w=>?_⟩) ?_
 ·exact run_nilCheck (.tmp 14) _ rfl b14
 change wpAny _ _ _ _ _ _ (Act.put _ (some 15) _) _
 have c15:(B.put (some 15) (.pointer (some ⟨b1,0,none⟩))).eval (.tmp 15) = .pointer (some ⟨b1,0,none⟩):=Act.eval_same _ _ _ (by rw[bz];decide)
 have c4:(B.put (some 15) (.pointer (some ⟨b1,0,none⟩))).eval (.tmp 4) = .pointer (some ⟨b2,0,none⟩):=(Act.eval_other _ _ _ _ (by decide)).trans b4
 have cz:(B.put (some 15) (.pointer (some ⟨b1,0,none⟩))).tmps.size=22:=by rw[Act.put_size,bz]
 have cd:(B.put (some 15) (.pointer (some ⟨b1,0,none⟩))).defers=[]:=by rw[Act.put_defers',bd]
 generalize B.put (some 15) (.pointer (some ⟨b1,0,none⟩))=C at *
 clear b14 b4 bz bd B
 refine wpAny_take (i:=3) (v:=.pointer (some ⟨b2,0,none⟩)) rfl (by kernel_rfl) (by kernel_rfl) (by kernel_rfl) (fun _ _ _ h=>h) (Or.inl ⟨by rfl,fun w=>?_⟩) ?_
 ·rw[run_move (.tmp 4) rfl,c4]
 change wpAny _ _ _ _ _ _ (Act.put _ (some 17) _) _
 have d15:(C.put (some 17) (.pointer (some ⟨b2,0,none⟩))).eval (.tmp 15) = .pointer (some ⟨b1,0,none⟩):=(Act.eval_other _ _ _ _ (by decide)).trans c15
 have d17:(C.put (some 17) (.pointer (some ⟨b2,0,none⟩))).eval (.tmp 17) = .pointer (some ⟨b2,0,none⟩):=Act.eval_same _ _ _ (by rw[cz];decide)
 have dz:(C.put (some 17) (.pointer (some ⟨b2,0,none⟩))).tmps.size=22:=by rw[Act.put_size,cz]
 have dd:(C.put (some 17) (.pointer (some ⟨b2,0,none⟩))).defers=[]:=by rw[Act.put_defers',cd]
 generalize C.put (some 17) (.pointer (some ⟨b2,0,none⟩))=D at *
 clear c15 c4 cz cd C
 refine wpAny_take (i:=4) (v:=.pointer (some ⟨b2,0,none⟩)) rfl (by kernel_rfl) (by kernel_rfl) (by kernel_rfl) (fun _ _ _ h=>h) (Or.inl ⟨by rfl,fun w=>?_⟩) ?_
 ·exact run_nilCheck (.tmp 17) _ rfl d17
 change wpAny _ _ _ _ _ _ (Act.put _ (some 18) _) _
 have e15:(D.put (some 18) (.pointer (some ⟨b2,0,none⟩))).eval (.tmp 15) = .pointer (some ⟨b1,0,none⟩):=(Act.eval_other _ _ _ _ (by decide)).trans d15
 have e18:(D.put (some 18) (.pointer (some ⟨b2,0,none⟩))).eval (.tmp 18) = .pointer (some ⟨b2,0,none⟩):=Act.eval_same _ _ _ (by rw[dz];decide)
 have ez:(D.put (some 18) (.pointer (some ⟨b2,0,none⟩))).tmps.size=22:=by rw[Act.put_size,dz]
 have ed:(D.put (some 18) (.pointer (some ⟨b2,0,none⟩))).defers=[]:=by rw[Act.put_defers',dd]
 generalize D.put (some 18) (.pointer (some ⟨b2,0,none⟩))=E at *
 clear d15 d17 dz dd D
 refine wpAny_ready (rs:=[2,5]) (by kernel_rfl) (by simp) ?_
 refine AllReady.cons rfl (fun K hK=>?_) (AllReady.cons rfl (fun K hK=>?_) AllReady.nil)
 ·refine step_load_mid rfl 171 (.tmp 15) rfl b1 0 e15 ci _ R1.out Tryz.underlying171 rfl S1.out ?_
  refine hK _ _ ?_
  clear hK K
  change wpAny _ _ _ _ _ _ (Act.put _ (some 16) _) _
  have f16:(E.put (some 16) (.agg ci.toArray)).eval (.tmp 16) = .agg ci.toArray:=Act.eval_same _ _ _ (by rw[ez];decide)
  have f18:(E.put (some 16) (.agg ci.toArray)).eval (.tmp 18) = .pointer (some ⟨b2,0,none⟩):=(Act.eval_other _ _ _ _ (by decide)).trans e18
  have fz:(E.put (some 16) (.agg ci.toArray)).tmps.size=22:=by rw[Act.put_size,ez]
  have fd:(E.put (some 16) (.agg ci.toArray)).defers=[]:=by rw[Act.put_defers',ed]
  generalize E.put (some 16) (.agg ci.toArray)=F at *
  clear e15 e18 ez ed E
  refine wpAny_ready (rs:=[5]) (by kernel_rfl) (by simp) ?_
  refine AllReady.cons rfl (fun K hK=>?_) AllReady.nil
  refine step_load_mid rfl 171 (.tmp 18) rfl b2 0 f18 co _ R2.out Tryz.underlying171 rfl S2.out ?_
  refine hK _ _ ?_
  clear hK K
  change wpAny _ _ _ _ _ _ (Act.put _ (some 19) _) _
  have g16:(F.put (some 19) (.agg co.toArray)).eval (.tmp 16) = .agg ci.toArray:=(Act.eval_other _ _ _ _ (by decide)).trans f16
  have g19:(F.put (some 19) (.agg co.toArray)).eval (.tmp 19) = .agg co.toArray:=Act.eval_same _ _ _ (by rw[fz];decide)
  have gz:(F.put (some 19) (.agg co.toArray)).tmps.size=22:=by rw[Act.put_size,fz]
  have gd:(F.put (some 19) (.agg co.toArray)).defers=[]:=by rw[Act.put_defers',fd]
  generalize F.put (some 19) (.agg co.toArray)=G at *
  clear f16 f18 fz fd F
  refine wpAny_ready (rs:=[6]) (by kernel_rfl) (by simp) ?_
  refine AllReady.cons rfl (fun K hK=>?_) AllReady.nil
  refine step_run rfl (.agg (ci++co).toArray) _ (run_build2 173 (.tmp 16) (.tmp 19) rfl g16 g19 (HBD.out _)) ?_
  refine hK _ _ ?_
  clear hK K
  change wpAny _ _ _ _ _ _ (Act.put _ (some 20) _) _
  have i20:(G.put (some 20) (.agg (ci++co).toArray)).eval (.tmp 20) = .agg (ci++co).toArray:=Act.eval_same _ _ _ (by rw[gz];decide)
  have iz:(G.put (some 20) (.agg (ci++co).toArray)).tmps.size=22:=by rw[Act.put_size,gz]
  have id:(G.put (some 20) (.agg (ci++co).toArray)).defers=[]:=by rw[Act.put_defers',gd]
  generalize G.put (some 20) (.agg (ci++co).toArray)=I at *
  clear g16 g19 gz gd G
  refine wpAny_ready (rs:=[7]) (by kernel_rfl) (by simp) ?_
  refine AllReady.cons rfl (fun K hK=>?_) AllReady.nil
  refine step_run rfl (.pointer (some ⟨w2.heap.size,0,none⟩)) (w2.drew.alloc (.cells (ci++co).toArray 173)) (run_box2 173 (.tmp 20) rfl i20) ?_
  refine hK _ _ ?_
  clear hK K
  change wpAny _ _ _ _ _ _ (Act.put _ (some 21) _) _
  have j21:(I.put (some 21) (.pointer (some ⟨w2.heap.size,0,none⟩))).eval (.tmp 21) = .pointer (some ⟨w2.heap.size,0,none⟩):=Act.eval_same _ _ _ (by rw[iz];decide)
  have jz:(I.put (some 21) (.pointer (some ⟨w2.heap.size,0,none⟩))).tmps.size=22:=by rw[Act.put_size,iz]
  have jd:(I.put (some 21) (.pointer (some ⟨w2.heap.size,0,none⟩))).defers=[]:=by rw[Act.put_defers',id]
  generalize I.put (some 21) (.pointer (some ⟨w2.heap.size,0,none⟩))=J at *
  clear i20 iz id I
  refine wpAny_ready (rs:=[8]) (by kernel_rfl) (by simp) ?_
  refine AllReady.cons rfl (fun K hK=>?_) AllReady.nil
  refine step_run rfl (.pointer (some ⟨w2.heap.size,0,none⟩)) _ (run_assign (.tmp 21) rfl j21) ?_
  refine hK _ _ ?_
  clear hK K
  change wpAny _ _ _ _ _ _ (Act.put _ (some 2) _) _
  have u2:(J.put (some 2) (.pointer (some ⟨w2.heap.size,0,none⟩))).eval (.tmp 2) = .pointer (some ⟨w2.heap.size,0,none⟩):=Act.eval_same _ _ _ (by rw[jz];decide)
  have uz:(J.put (some 2) (.pointer (some ⟨w2.heap.size,0,none⟩))).tmps.size=22:=by rw[Act.put_size,jz]
  have ud:(J.put (some 2) (.pointer (some ⟨w2.heap.size,0,none⟩))).defers=[]:=by rw[Act.put_defers',jd]
  generalize J.put (some 2) (.pointer (some ⟨w2.heap.size,0,none⟩))=U at *
  refine wpAny_done (by kernel_rfl) ?_ _
  refine back _ _ (wp_ret ?_)
  refine bodyPost_ret (results_tmp rfl _ _ _) ud ?_
  refine ⟨w2.heap.size,congrArg Ending.returned u2,hge,HM.out _ (Blk.new rfl rfl),HB.out.drew.alloc hge _⟩
 ·refine step_load_mid rfl 171 (.tmp 18) rfl b2 0 e18 co _ R2.out Tryz.underlying171 rfl S2.out ?_
  refine hK _ _ ?_
  clear hK K
  change wpAny _ _ _ _ _ _ (Act.put _ (some 19) _) _
  have f19:(E.put (some 19) (.agg co.toArray)).eval (.tmp 19) = .agg co.toArray:=Act.eval_same _ _ _ (by rw[ez];decide)
  have f15:(E.put (some 19) (.agg co.toArray)).eval (.tmp 15) = .pointer (some ⟨b1,0,none⟩):=(Act.eval_other _ _ _ _ (by decide)).trans e15
  have fz:(E.put (some 19) (.agg co.toArray)).tmps.size=22:=by rw[Act.put_size,ez]
  have fd:(E.put (some 19) (.agg co.toArray)).defers=[]:=by rw[Act.put_defers',ed]
  generalize E.put (some 19) (.agg co.toArray)=F at *
  clear e15 e18 ez ed E
  refine wpAny_ready (rs:=[2]) (by kernel_rfl) (by simp) ?_
  refine AllReady.cons rfl (fun K hK=>?_) AllReady.nil
  refine step_load_mid rfl 171 (.tmp 15) rfl b1 0 f15 ci _ R1.out Tryz.underlying171 rfl S1.out ?_
  refine hK _ _ ?_
  clear hK K
  change wpAny _ _ _ _ _ _ (Act.put _ (some 16) _) _
  have g19:(F.put (some 16) (.agg ci.toArray)).eval (.tmp 19) = .agg co.toArray:=(Act.eval_other _ _ _ _ (by decide)).trans f19
  have g16:(F.put (some 16) (.agg ci.toArray)).eval (.tmp 16) = .agg ci.toArray:=Act.eval_same _ _ _ (by rw[fz];decide)
  have gz:(F.put (some 16) (.agg ci.toArray)).tmps.size=22:=by rw[Act.put_size,fz]
  have gd:(F.put (some 16) (.agg ci.toArray)).defers=[]:=by rw[Act.put_defers',fd]
  generalize F.put (some 16) (.agg ci.toArray)=G at *
  clear f19 f15 fz fd F
  refine wpAny_ready (rs:=[6]) (by kernel_rfl) (by simp) ?_
  refine AllReady.cons rfl (fun K hK=>?_) AllReady.nil
  refine step_run rfl (.agg (ci++co).toArray) _ (run_build2 173 (.tmp 16) (.tmp 19) rfl g16 g19 (HBD.out _)) ?_
  refine hK _ _ ?_
  clear hK K
  change wpAny _ _ _ _ _ _ (Act.put _ (some 20) _) _
  have i20:(G.put (some 20) (.agg (ci++co).toArray)).eval (.tmp 20) = .agg (ci++co).toArray:=Act.eval_same _ _ _ (by rw[gz];decide)
  have iz:(G.put (some 20) (.agg (ci++co).toArray)).tmps.size=22:=by rw[Act.put_size,gz]
  have id:(G.put (some 20) (.agg (ci++co).toArray)).defers=[]:=by rw[Act.put_defers',gd]
  generalize G.put (some 20) (.agg (ci++co).toArray)=I at *
  clear g16 g19 gz gd G
  refine wpAny_ready (rs:=[7]) (by kernel_rfl) (by simp) ?_
  refine AllReady.cons rfl (fun K hK=>?_) AllReady.nil
  refine step_run rfl (.pointer (some ⟨w2.heap.size,0,none⟩)) (w2.drew.alloc (.cells (ci++co).toArray 173)) (run_box2 173 (.tmp 20) rfl i20) ?_
  refine hK _ _ ?_
  clear hK K
  change wpAny _ _ _ _ _ _ (Act.put _ (some 21) _) _
  have j21:(I.put (some 21) (.pointer (some ⟨w2.heap.size,0,none⟩))).eval (.tmp 21) = .pointer (some ⟨w2.heap.size,0,none⟩):=Act.eval_same _ _ _ (by rw[iz];decide)
  have jz:(I.put (some 21) (.pointer (some ⟨w2.heap.size,0,none⟩))).tmps.size=22:=by rw[Act.put_size,iz]
  have jd:(I.put (some 21) (.pointer (some ⟨w2.heap.size,0,none⟩))).defers=[]:=by rw[Act.put_defers',id]
  generalize I.put (some 21) (.pointer (some ⟨w2.heap.size,0,none⟩))=J at *
  clear i20 iz id I
  refine wpAny_ready (rs:=[8]) (by kernel_rfl) (by simp) ?_
  refine AllReady.cons rfl (fun K hK=>?_) AllReady.nil
  refine step_run rfl (.pointer (some ⟨w2.heap.size,0,none⟩)) _ (run_assign (.tmp 21) rfl j21) ?_
  refine hK _ _ ?_
  clear hK K
  change wpAny _ _ _ _ _ _ (Act.put _ (some 2) _) _
  have u2:(J.put (some 2) (.pointer (some ⟨w2.heap.size,0,none⟩))).eval (.tmp 2) = .pointer (some ⟨w2.heap.size,0,none⟩):=Act.eval_same _ _ _ (by rw[jz];decide)
  have uz:(J.put (some 2) (.pointer (some ⟨w2.heap.size,0,none⟩))).tmps.size=22:=by rw[Act.put_size,jz]
  have ud:(J.put (some 2) (.pointer (some ⟨w2.heap.size,0,none⟩))).defers=[]:=by rw[Act.put_defers',jd]
  generalize J.put (some 2) (.pointer (some ⟨w2.heap.size,0,none⟩))=U at *
  refine wpAny_done (by kernel_rfl) ?_ _
  refine back _ _ (wp_ret ?_)
  refine bodyPost_ret (results_tmp rfl _ _ _) ud ?_
  refine ⟨w2.heap.size,congrArg Ending.returned u2,hge,HM.out _ (Blk.new rfl rfl),HB.out.drew.alloc hge _⟩
theorem kbegin_any (key:ByteArray) (w:World) (hl:key.size<2 ^ 59) (hk:KTab w) (hH:HTab w) (h2:2≤w.heap.size):
  Calls Tryz.prog 87 #[.string key] w fun e w'=>∃ b,e = .returned (.pointer (some ⟨b,0,none⟩))∧w.heap.size≤b∧MRep w' b 173 key.data.toList []∧Below w.heap.size w w':=by
 by_cases h:64<key.size
 ·exact kbegin_long key w h hl hk hH h2
 ·exact kbegin_short key w (by omega) hk hH h2
theorem MRep.lt' {w:World} {b:Nat} {t:TypeId} {key l:List UInt8} (h:MRep w b t key l):b<w.heap.size:=by
 obtain ⟨_,_,_,_,h,_⟩:=h
 exact h.lt
theorem blk_inj {w:World} {b:Nat} {t:TypeId} {c d:List Value} (h:Blk w b t c) (h':Blk w b t d):c=d:=by
 unfold Blk at h h'
 rw[h] at h'
 injection h' with e
 injection e with e _ _
 exact congrArg Array.toList e
theorem MRep.same {w:World} {b:Nat} {t:TypeId} {key l:List UInt8} (h:MRep w b t key l):∃ s k s' k',k.length=64∧k'.length=64 ∧
  s=Sha.comps (padL key 0x36++l) ((padL key 0x36++l).length/64)∧k.take ((padL key 0x36++l).length%64)=(padL key 0x36++l).drop (64*((padL key 0x36++l).length/64)) ∧
  s'=Sha.comps (padL key 0x5c) ((padL key 0x5c).length/64)∧k'.take ((padL key 0x5c).length%64)=(padL key 0x5c).drop (64*((padL key 0x5c).length/64)) ∧
  Blk w b t (hcells s k (padL key 0x36++l).length++hcells s' k' (padL key 0x5c).length):=by
 obtain ⟨ci,co,h1,h2,⟨k,hk,ht,hB⟩,⟨k',hk',ht',hB'⟩⟩:=h
 refine ⟨_,k,_,k',hk,hk',rfl,ht,rfl,ht',?_⟩
 have e:hcells (Sha.comps (padL key 0x36++l) ((padL key 0x36++l).length/64)) k (padL key 0x36++l).length++co=ci++hcells (Sha.comps (padL key 0x5c) ((padL key 0x5c).length/64)) k' (padL key 0x5c).length:=by
  simpa using blk_inj hB hB'
 have hl:=List.append_inj e (by rw[hcells_len _ _ _ hk,h1])
 rw[←hl.2]
 simpa using hB
set_option maxRecDepth 100000 in
set_option maxHeartbeats 800000 in
theorem kwrite_any (b:Nat) (key l:List UInt8) (s:ByteArray) (w:World) (hn:l.length+s.size<2 ^ 60) (hb:MRep w b 173 key l) (hk:KTab w) (h2:2≤b):
  Calls Tryz.prog 88 #[.pointer (some ⟨b,0,none⟩),.string s] w fun e w'=>e = .returned (.tuple #[])∧MRep w' b 173 key (l++s.data.toList)∧w.grownBy w' (some b):=by
 obtain ⟨st,k,st',k',q1,q2,q3,q4,q5,q6,hB⟩:=hb.same
 have hpl:=padL_len key 0x36
 have hr:HRep w b 173 [] (hcells st' k' (padL key 0x5c).length) (padL key 0x36++l):=⟨k,q1,q4,by rw[←q3];simpa using hB⟩
 have HW:=hide (hwrite_any b 173 [] (hcells st' k' (padL key 0x5c).length) (padL key 0x36++l) s w (by rw[List.length_append,hpl];omega) hr hk h2)
 have HF:=hide (show ∀ w',HRep w' b 173 [] (hcells st' k' (padL key 0x5c).length) (padL key 0x36++l++s.data.toList)→MRep w' b 173 key (l++s.data.toList) from fun w' h=>by
  obtain ⟨kk,r1,r2,r3⟩:=h
  have hcl:=hcells_len (Sha.comps (padL key 0x36++l++s.data.toList) ((padL key 0x36++l++s.data.toList).length/64)) kk (padL key 0x36++l++s.data.toList).length r1
  refine ⟨_,hcells st' k' (padL key 0x5c).length,hcl,hcells_len _ _ _ q2,⟨kk,r1,by rw[←List.append_assoc];exact r2,by rw[←List.append_assoc];exact r3⟩,⟨k',q2,q6,by rw[←q5];simpa using r3⟩⟩)
 clear hb q1 q2 q3 q4 q5 q6 hB hpl hr hk
 go_enter Tryz.func88,Tryz.ntmps88
 go_wp2_with fail
 refine HW.out.mono ?_
 rintro e w1 ⟨rfl,h1,h3⟩
 have H1:=hide (HF.out _ h1)
 have H3:=hide h3
 clear h1 h3
 go_wp2
 go_end0
 exact ⟨rfl,H1.out,H3.out⟩
def macL (key l:List UInt8):List UInt8:=Sha.sum (padL key 0x5c++Sha.sum (padL key 0x36++l))
theorem macL_len (key l:List UInt8):(macL key l).length=32:=Sha.sum_len _
set_option maxRecDepth 100000 in
set_option maxHeartbeats 800000 in
theorem ksum_any (b:Nat) (key l:List UInt8) (w:World) (hn:l.length<2 ^ 58) (hb:MRep w b 173 key l) (hk:KTab w) (h2:2≤w.heap.size):
  Calls Tryz.prog 89 #[.pointer (some ⟨b,0,none⟩)] w fun e w'=>e = .returned (.string ⟨(macL key l).toArray⟩)∧Below w.heap.size w w':=by
 have hbl:=hb.lt'
 obtain ⟨ci,co,n1,n2,hr1,hr2⟩:=hb
 have hp1:=padL_len key 0x36
 have hp2:=padL_len key 0x5c
 have H1:=hide (hsum_any b 173 [] co (padL key 0x36++l) w (by rw[List.length_append,hp1];omega) hr1 hk h2)
 have hs1:=Sha.sum_len (padL key 0x36++l)
 have hdef:macL key l=Sha.sum (padL key 0x5c++Sha.sum (padL key 0x36++l)):=rfl
 generalize Sha.sum (padL key 0x36++l)=hh at *
 obtain ⟨hs,hhs⟩:∃ hs:ByteArray,hs=⟨hh.toArray⟩:=⟨_,rfl⟩
 have hhl:hs.data.toList=hh:=by rw[hhs]
 have hhz:hs.size=32:=by rw[hhs];show hh.toArray.size=32;rw[List.size_toArray];exact hs1
 rw[←hhs] at H1
 rw[←hhl] at hdef
 generalize padL key 0x5c=po at *
 have HD:=hide hdef
 have HR2:=hide hr2
 have HP2:=hide hp2
 clear hr1 hr2 hp1 hp2 hs1 hhs hhl hdef n2
 go_enter Tryz.func89,Tryz.ntmps89
 go_wp2_with fail
 refine H1.out.mono ?_
 rintro e w1 ⟨rfl,hb1⟩
 have hcp:=copy_any b 173 ci [] po w1 (HR2.out.below hb1 hbl)
 rw[n1] at hcp
 have HCP:=hide hcp
 have hk1:=hk.below hb1 h2
 have h21:2≤w1.heap.size:=Nat.le_trans h2 hb1.size
 have HB1:=hide hb1
 clear hb1 hcp hk H1
 go_wp2_with fail
 refine HCP.out.mono ?_
 rintro e w2 ⟨rfl,hr,hb2⟩
 have hk2:=hk1.below hb2 h21
 have hl2:=hr.lt
 have HW:=hide (hwrite_any w1.heap.size 171 [] [] po hs w2 (by rw[HP2.out,hhz];decide) hr hk2 h21)
 have HB2:=hide (HB1.out.trans (hb2.mono HB1.out.size))
 have hge:w.heap.size≤w1.heap.size:=HB1.out.size
 clear hr hb2 hk1 HCP HB1
 generalize w1.heap.size=nb at *
 go_wp2_with fail
 refine HW.out.mono ?_
 rintro e w3 ⟨rfl,hr3,hg3⟩
 have hb3:Below w.heap.size w w3:=HB2.out.trans (RowKit.Below.of_grown hg3 hge (by omega))
 have hb23:Below nb w2 w3:=RowKit.Below.of_grown hg3 (Nat.le_refl _) (by omega)
 have hk3:=hk2.below hb23 h21
 have hsz3:=hr3.lt
 have HS:=hide (hsum_any nb 171 [] [] (po++hs.data.toList) w3 (by rw[List.length_append,HP2.out,Array.length_toList,show hs.data.size=hs.size from rfl,hhz];decide) hr3 hk3 (by omega))
 rw[←HD.out] at HS
 have HB3:=hide hb3
 clear hr3 hg3 hb3 hb23 hk2 hk3 HB2 HW
 go_wp2_with fail
 refine HS.out.mono ?_
 rintro e w4 ⟨rfl,hb4⟩
 have HB4:=hide (HB3.out.trans (hb4.mono HB3.out.size))
 clear hb4
 go_wp2
 go_ret
 exact ⟨rfl,HB4.out⟩
set_option maxRecDepth 100000 in
set_option maxHeartbeats 800000 in
theorem hmac_any (key text:ByteArray) (w:World) (hkey:key.size<2 ^ 57) (htext:text.size<2 ^ 57) (hk:KTab w) (hH:HTab w) (h2:2≤w.heap.size):
  Calls Tryz.prog 54 #[.string key,.string text] w fun e w'=>e = .returned (.string ⟨(macL key.data.toList text.data.toList).toArray⟩)∧Below w.heap.size w w':=by
 have H1:=hide (kbegin_any key w (by omega) hk hH h2)
 have htl:text.data.toList.length=text.size:=by rw[Array.length_toList];rfl
 have HTL:=hide htl
 clear htl
 go_enter Tryz.func54,Tryz.ntmps54
 go_wp2_with fail
 refine H1.out.mono ?_
 rintro e w1 ⟨b,rfl,hge,hm1,hb1⟩
 have hk1:=hk.below hb1 h2
 have hl1:=hm1.lt'
 have HW:=hide (kwrite_any b key.data.toList [] text w1 (by show 0+text.size<2 ^ 60;omega) hm1 hk1 (by omega))
 have HB1:=hide hb1
 clear hm1 hb1 hk hH H1
 go_wp2_with fail
 refine HW.out.mono ?_
 rintro e w2 ⟨rfl,hm2,hg2⟩
 rw[List.nil_append] at hm2
 have hb2:Below w.heap.size w1 w2:=RowKit.Below.of_grown hg2 hge (by omega)
 have hk2:=hk1.below hb2 h2
 have hl2:=hm2.lt'
 have HS:=hide (ksum_any b key.data.toList text.data.toList w2 (by rw[HTL.out];omega) hm2 hk2 (by omega))
 have HB2:=hide (HB1.out.trans hb2)
 clear hm2 hg2 hb2 hk1 hk2 HW HB1
 go_wp2_with fail
 refine HS.out.mono ?_
 rintro e w3 ⟨rfl,hb3⟩
 have HB3:=hide (HB2.out.trans (hb3.mono HB2.out.size))
 clear hb3
 go_wp2
 go_ret
 exact ⟨rfl,HB3.out⟩
set_option maxHeartbeats 800000 in
theorem extract_any (key text:ByteArray) (w:World) (hkey:key.size<2 ^ 57) (htext:text.size<2 ^ 57) (hk:KTab w) (hH:HTab w) (h2:2≤w.heap.size):
  Calls Tryz.prog 66 #[.string key,.string text] w fun e w'=>e = .returned (.string ⟨(macL key.data.toList text.data.toList).toArray⟩)∧Below w.heap.size w w':=by
 have H1:=hide (hmac_any key text w hkey htext hk hH h2)
 clear hk hH
 go_enter Tryz.func66,Tryz.ntmps66
 go_wp2_with fail
 refine H1.out.mono ?_
 rintro e w1 ⟨rfl,hb1⟩
 have HB1:=hide hb1
 clear hb1
 go_wp2
 go_ret
 exact ⟨rfl,HB1.out⟩
theorem ba_size (l:List UInt8):(⟨l.toArray⟩:ByteArray).size=l.length:=List.size_toArray
theorem one_str (i:Nat) (hi:i≤255) (w:World):(convert 67 9 (.slice (some ⟨w.heap.size,0,none⟩) 1 1)).run Tryz.prog (w.alloc (.cells #[.int .u8 (i:Int)] 5)) = .ok (.string ⟨#[UInt8.ofNat i]⟩) (w.alloc (.cells #[.int .u8 (i:Int)] 5)):=by
 have hB:Blk (w.alloc (.cells #[.int .u8 (i:Int)] 5)) w.heap.size 5 (u8L [UInt8.ofNat i]):=Blk.new rfl (by simp[u8L];omega)
 exact blk_str hB 1 1 rfl
set_option maxHeartbeats 400000 in
theorem oneByte_any (i:Nat) (hi:i≤255) (w:World):
  Calls Tryz.prog 101 #[.int .i64 (i:Int)] w fun e w'=>e = .returned (.string ⟨#[UInt8.ofNat i]⟩)∧Below w.heap.size w w':=by
 have hcv:=fun w=>one_str i hi w
 have tw:IntKind.u8.wrap (i:Int)=(i:Int):=by show (i:Int)%256=_;omega
 have tm:(i:Int)%256=(i:Int):=by omega
 go_enter Tryz.func101,Tryz.ntmps101
 go_wp2
 go_ret
 exact ⟨rfl,(Below.refl _ _).alloc (Nat.le_refl _) _⟩
def expT (prk info:List UInt8):Nat→List UInt8
 | 0=>[]
 | k+1=>macL prk (expT prk info k++info++[UInt8.ofNat (k+1)])
def expO (prk info:List UInt8):Nat→List UInt8
 | 0=>[]
 | k+1=>expO prk info k++expT prk info (k+1)
theorem expT_len (prk info:List UInt8) (k:Nat):(expT prk info k).length≤32:=by
 cases k with
 | zero=>exact Nat.zero_le _
 | succ k=>exact Nat.le_of_eq (macL_len _ _)
theorem expO_len (prk info:List UInt8):∀ k,(expO prk info k).length=32*k
 | 0=>rfl
 | k+1=>by
  show (expO prk info k++macL _ _).length=_
  rw[List.length_append,expO_len prk info k,macL_len];omega
theorem ba_list (a b:ByteArray):(a++b).data.toList=a.data.toList++b.data.toList:=by simp[ByteArray.data_append]
theorem ba_len (a:ByteArray):a.data.toList.length=a.size:=by rw[Array.length_toList];rfl
theorem ba_sz (a b:ByteArray):(a++b).size=a.size+b.size:=by rw[←ba_len,ba_list,List.length_append,ba_len,ba_len]
set_option maxRecDepth 100000 in
set_option maxHeartbeats 800000 in
theorem expand_any (prk info:ByteArray) (n:Nat) (w:World) (hn:n≤8160) (hprk:prk.size<2 ^ 50) (hinfo:info.size<2 ^ 50) (hk:KTab w) (hH:HTab w) (h2:2≤w.heap.size):
  Calls Tryz.prog 67 #[.string prk,.string info,.int .i64 (n:Int)] w fun e w'=>e = .returned (.string ⟨((expO prk.data.toList info.data.toList ((n+31)/32)).take n).toArray⟩)∧Below w.heap.size w w':=by
 obtain ⟨i0,hi0,hz0,hz1,hz2⟩:=info_parts infoU8
 have HI0:=hide hi0
 have HZ0:=hide hz0
 have HZ1:=hide hz1
 have HZ2:=hide hz2
 have HTL:=hide (expT_len prk.data.toList info.data.toList)
 have HOL:=hide (expO_len prk.data.toList info.data.toList)
 have HT:=hide (show ∀ k,expT prk.data.toList info.data.toList (k+1)=macL prk.data.toList (expT prk.data.toList info.data.toList k++info.data.toList++[UInt8.ofNat (k+1)]) from fun _=>rfl)
 have HO:=hide (show ∀ k,expO prk.data.toList info.data.toList (k+1)=expO prk.data.toList info.data.toList k++expT prk.data.toList info.data.toList (k+1) from fun _=>rfl)
 have HT0:=hide (show expT prk.data.toList info.data.toList 0=[] from rfl)
 have HO0:=hide (show expO prk.data.toList info.data.toList 0=[] from rfl)
 generalize expT prk.data.toList info.data.toList=T at *
 generalize expO prk.data.toList info.data.toList=O at *
 generalize hK:(n+31)/32=K at *
 have HKN:=hide hK
 clear hi0 hz0 hz1 hz2 hK
 go_enter Tryz.func67,Tryz.ntmps67
 go_wp2
 go_loopw [7,8,9] (fun vo vl vi wr=>∃ (k i m:Nat) (last:ByteArray),k≤K∧i=k+1∧m=32*k∧vi = .int .i64 (i:Nat)∧vl = .string last∧last.data.toList=T k∧wr.ownsRow w.heap.size 5 1 vo m (u8L (O k))∧Below w.heap.size w wr∧vo≠.slice none 0 0) (fun _ _ i _=>300-(intOf i).toNat)
 case atStart=>
  refine ⟨0,1,0,⟨#[]⟩,by omega,rfl,rfl,rfl,rfl,by rw[HT0.out],?_,(Below.refl _ _).alloc (Nat.le_refl _) _,by simp⟩
  rw[HO0.out]
  exact ⟨rfl,.inr ⟨w.heap.size,0,#[],rfl,Nat.le_refl _,heap_alloc_new w _,Nat.le_refl _,by decide,rfl,rfl⟩⟩
 case round=>
  obtain ⟨k,i,m,last,hkK,hik,hmk,rfl,rfl,hlast,hown,hbe,hne⟩:=hrel
  obtain ⟨ao,cap,rfl⟩:∃ ao cap,u7 = .slice ao m cap:=by
   rcases hown.2 with ⟨rfl,rfl⟩ | ⟨g,cap,cur,rfl,_⟩
   ·exact ⟨none,0,rfl⟩
   ·exact ⟨_,cap,rfl⟩
  have hKN:=HKN.out
  by_cases hlt:m<n
  ·have hi255:i≤255:=by omega
   have hll:last.size≤32:=by rw[←ba_len,hlast];exact HTL.out k
   have ls:(last++info++(⟨#[UInt8.ofNat i]⟩:ByteArray)).data.toList=T k++info.data.toList++[UInt8.ofNat (k+1)]:=by rw[ba_list,ba_list,hlast,hik]
   have zs:(last++info++(⟨#[UInt8.ofNat i]⟩:ByteArray)).size=last.size+info.size+1:=by rw[ba_sz,ba_sz];rfl
   have j1:¬ 9223372036854775807<last.size+info.size:=by omega
   have j2:¬ 9223372036854775807<(last++info).size+(⟨#[UInt8.ofNat i]⟩:ByteArray).size:=by rw[ba_sz];show ¬ 9223372036854775807<last.size+info.size+1;omega
   have hkr:=hk.below hbe h2
   have hHr:=hH.below hbe h2
   have h2r:2≤wr.heap.size:=Nat.le_trans h2 hbe.size
   have HM:=hide (fun w (a:KTab w) (b:HTab w) (c:2≤w.heap.size)=>hmac_any prk (last++info++(⟨#[UInt8.ofNat i]⟩:ByteArray)) w (by omega) (by rw[zs];omega) a b c)
   rw[ls,←HT.out k] at HM
   have hTl:(T (k+1)).length=32:=by rw[HT.out];exact macL_len _ _
   obtain ⟨nl,hnl⟩:∃ nl:ByteArray,nl=⟨(T (k+1)).toArray⟩:=⟨_,rfl⟩
   have hnll:nl.data.toList=T (k+1):=by rw[hnl]
   have hnlz:nl.size=32:=by rw[hnl,ba_size,hTl]
   rw[←hnl] at HM
   have HONE:=hide (oneByte_any i hi255)
   have HOWN:=hide hown
   have HBE:=hide hbe
   have HNL:=hide hnll
   have HIK:=hide hik
   have HMK:=hide hmk
   have HKR:=hide hkr
   have HHR:=hide hHr
   clear hown hbe ls zs hll hTl hnl hnll hlast hik hmk hkr hHr
   have jm:(m:Int)<(n:Int):=by omega
   generalize (⟨#[UInt8.ofNat i]⟩:ByteArray)=ob at *
   go_wp2_with fail
   refine (HONE.out _).mono ?_
   rintro e w1 ⟨rfl,hb1⟩
   have HOWN1:=hide (HOWN.out.kept (hb1.grownBy none) (by cases hv:Value.ownBlock (.slice ao m cap) <;> simp))
   have HB1:=hide (HBE.out.trans (hb1.mono HBE.out.size))
   have HMM:=hide (HM.out w1 (HKR.out.below hb1 h2r) (HHR.out.below hb1 h2r) (Nat.le_trans h2r hb1.size))
   clear hb1 HOWN HBE HM HONE HKR HHR
   go_wp2_with fail
   refine HMM.out.mono ?_
   rintro e w2 ⟨rfl,hb2⟩
   have HOWN2:=hide (HOWN1.out.kept (hb2.grownBy none) (by cases hv:Value.ownBlock (.slice ao m cap) <;> simp))
   have HB2:=hide (HB1.out.trans (hb2.mono HB1.out.size))
   clear hb2 HOWN1 HB1 HMM
   go_wp2_with (at_builtin;refine Lib.wpList_append_own_string (P:=Tryz.prog) w2 rfl (.tmp 25) (.tmp 26) 67 9 rfl w.heap.size 5 i0 Tryz.underlying67 Tryz.underlying9 HI0.out HZ0.out HZ1.out HZ2.out _ m _ rfl HOWN2.out nl rfl ?_ ?_ HB2.out.size ?_;(unfold maxLen;omega);omega;intro v1 w3 hr1 hg1 hv1)
   go_roundw
   case rel=>
    refine ⟨k+1,i+1,m+nl.size,nl,by have:=HMK.out;omega,by rw[HIK.out],by rw[HMK.out,hnlz];omega,by go_num,rfl,HNL.out,?_,?_,fun e=>hne (hv1.1 e).1⟩
    ·have e:u8L (O (k+1))=u8L (O k)++Lib.strCells nl:=by
      rw[HO.out,u8L_append,←HNL.out];rfl
     rw[e]
     exact hr1
    ·exact Below.grown HB2.out hg1 HB2.out.size (fun k hk=>(HOWN2.out.lt k hk).1)
   case measure=>simp[intOf];omega
  ·have hkk:k=K:=by omega
   have jm:¬ (m:Int)<(n:Int):=by omega
   rcases hown.2 with ⟨hnil,_⟩ | ⟨g,cap',cur,hv,hg1,hg2,hg3,hg4,hg5,hg6⟩
   ·exact absurd hnil hne
   ·injection hv with e1 _ e3
    subst e1 e3
    subst hkk
    have hOl:((O k).take n).length=n:=by rw[List.length_take,HOL.out];omega
    have hB:∀ j u,(u8L (O k))[j]? = some u→wr.cell? ⟨g,j,none⟩=some u:=fun j u hu=>by
     have:=hown.cells (g:=g) rfl j u hu
     rwa [Addr.add_mid,Nat.zero_add] at this
    have hcv:(convert 67 9 (.slice (some ⟨g,0,none⟩) n cap)).run Tryz.prog wr = .ok (.string ⟨((O k).take n).toArray⟩) wr:=by
     have h:=run_convert_bytes_back (P:=Tryz.prog) wr 67 9 5 ⟨g,0,none⟩ cap ((O k).take n) Tryz.underlying67 Tryz.underlying5 Tryz.underlying9 (fun j hj=>by
      rw[Addr.add_mid,Nat.zero_add]
      refine hB j _ ?_
      simp only[List.length_take] at hj
      rw[List.getElem_take]
      simp[u8L,show j<(O k).length by omega])
     rw[hOl] at h
     exact h
    have jc:n≤cap:=by omega
    have HBE:=hide hbe
    unfold maxLen at hg4
    generalize hout:(O k).take n=out at *
    have HOUT:=hide hout
    clear hout
    clear hown hbe hlast hmk hik hkK hKN HTL HOL HT HO HKN hB hg1 hg2 hg5 hg6 hOl HT0 HO0
    go_wp2
    go_ret
    rw[HOUT.out]
    exact ⟨rfl,HBE.out⟩
theorem ba_ext {a b:ByteArray} (h:a.data.toList=b.data.toList):a=b:=ByteArray.ext (Array.toList_inj.1 h)
theorem ext_take (a:ByteArray) (n:Nat):(a.extract 0 n).data.toList=a.data.toList.take n:=by
 simp
set_option maxRecDepth 100000 in
set_option maxHeartbeats 800000 in
theorem kKey_any (ikm salt info:ByteArray) (w:World) (h1:ikm.size<2 ^ 50) (h3:salt.size<2 ^ 50) (hinfo:info.size<2 ^ 50) (hk:KTab w) (hH:HTab w) (h2:2≤w.heap.size):
  Calls Tryz.prog 32 #[.string ikm,.string salt,.string info] w fun e w'=>e = .returned (.string ⟨((expO (macL salt.data.toList ikm.data.toList) info.data.toList 1).take 32).toArray⟩)∧Below w.heap.size w w':=by
 have H1:=hide (extract_any salt ikm w (by omega) (by omega) hk hH h2)
 have hml:=macL_len salt.data.toList ikm.data.toList
 generalize macL salt.data.toList ikm.data.toList=pl at *
 obtain ⟨p,hp⟩:∃ p:ByteArray,p=⟨pl.toArray⟩:=⟨_,rfl⟩
 rw[←hp] at H1
 have hz:p.size=32:=by rw[hp,ba_size,hml]
 have hd:p.data.toList=pl:=by rw[hp]
 have HE:=hide (fun w (a:KTab w) (b:HTab w) (c:2≤w.heap.size)=>expand_any p info 32 w (by decide) (by omega) hinfo a b c)
 rw[hd] at HE
 have HK:=hide hk
 have HH:=hide hH
 clear hk hH hp hd hz hml
 go_enter Tryz.func32,Tryz.ntmps32
 go_wp2_with fail
 refine H1.out.mono ?_
 rintro e w1 ⟨rfl,hb1⟩
 have HB1:=hide hb1
 have HEE:=hide (HE.out w1 (HK.out.below hb1 h2) (HH.out.below hb1 h2) (Nat.le_trans h2 hb1.size))
 clear hb1 HE H1
 go_wp2_with fail
 refine HEE.out.mono ?_
 rintro e w2 ⟨rfl,hb2⟩
 have HB2:=hide (HB1.out.trans (hb2.mono HB1.out.size))
 clear hb2
 go_wp2
 go_ret
 exact ⟨rfl,HB2.out⟩
theorem or_zero {x y:Nat}:x ||| y=0↔x=0∧y=0:=Nat.or_eq_zero_iff
theorem xor_zero {x y:Nat}:x ^^^ y=0↔x=y:=by
 constructor
 ·intro h
  apply Nat.eq_of_testBit_eq
  intro i
  have h1:=congrArg (fun z:Nat=>z.testBit i) h
  simpa using h1
 ·rintro rfl
  exact Nat.xor_self _
theorem take_next {a b:List UInt8} {k:Nat} (ha:k<a.length) (hb:k<b.length):a.take (k+1)=b.take (k+1)↔a.take k=b.take k∧a[k]=b[k]:=by
 rw[List.take_succ_eq_append_getElem ha,List.take_succ_eq_append_getElem hb]
 constructor
 ·intro h
  have h1:=List.append_inj h (by simp;omega)
  exact ⟨h1.1,by simpa using h1.2⟩
 ·rintro ⟨h1,h2⟩
  rw[h1,h2]
set_option maxRecDepth 100000 in
set_option maxHeartbeats 800000 in
theorem same_any (a b:ByteArray) (w:World) (ha:a.size≤1099511627776):
  Calls Tryz.prog 70 #[.string a,.string b] w fun e w'=>e = .returned (.bool (decide (a=b)))∧∃ m,w'=w.drewN m:=by
 by_cases hl:a.size=b.size
 ·have jl:(a.size:Int)=(b.size:Int):=by omega
  have jl2:((a.size:Int) != (b.size:Int))=false:=by rw[jl];simp
  have HL:=hide hl
  clear hl jl
  go_enter Tryz.func70,Tryz.ntmps70
  go_wp2
  go_loopw [5,6] (fun vo vi wr=>∃ (k X m:Nat),k≤a.size∧vi = .int .i64 (k:Nat)∧vo = .int .u8 (X:Nat)∧X<256∧(X=0↔a.data.toList.take k=b.data.toList.take k)∧wr=w.drewN m) (fun _ i _=>a.size-(intOf i).toNat)
  case atStart=>exact ⟨0,0,0,by omega,rfl,rfl,by decide,by simp,rfl⟩
  case round=>
   obtain ⟨k,X,m,hk,rfl,rfl,hX,hiff,rfl⟩:=hrel
   by_cases hlt:k<a.size
   ·have hltb:k<b.size:=by rw[←HL.out];exact hlt
    have hx:a[k].toNat<256:=UInt8.toNat_lt _
    have hy:b[k].toNat<256:=UInt8.toNat_lt _
    have t1:=u8_xor_nat a[k].toNat b[k].toNat hx hy
    have t2:=u8_or_nat X (a[k].toNat ^^^ b[k].toNat) hX (Nat.xor_lt_two_pow (n:=8) hx hy)
    have hstep:(X ||| (a[k].toNat ^^^ b[k].toNat)=0↔a.data.toList.take (k+1)=b.data.toList.take (k+1)):=by
     have hka:k<a.data.toList.length:=by rw[ba_len];exact hlt
     have hkb:k<b.data.toList.length:=by rw[ba_len];exact hltb
     rw[take_next hka hkb,or_zero,xor_zero,hiff]
     have e1:a.data.toList[k]=a[k]:=by rw[Array.getElem_toList];rfl
     have e2:b.data.toList[k]=b[k]:=by rw[Array.getElem_toList];rfl
     rw[e1,e2,UInt8.toNat_inj]
    have hlt2:X ||| (a[k].toNat ^^^ b[k].toNat)<256:=Nat.or_lt_two_pow (n:=8) hX (Nat.xor_lt_two_pow (n:=8) hx hy)
    have HST:=hide hstep
    clear hstep hiff
    generalize X ||| (a[k].toNat ^^^ b[k].toNat)=Y at *
    refine wp_letterW (fun w'=>∃ m,w'=w.drewN m) ⟨m,rfl⟩ ?_
    rintro wq hm
    go_wp2
    go_quiet (fail)
    go_wp2
    go_roundw
    case rel=>
     obtain ⟨m',rfl⟩:=hm
     exact ⟨k+1,Y,m'+nq,by omega,by go_num,by first | rfl | go_num,hlt2,HST.out,by simp⟩
    case measure=>simp[intOf];omega
   ·have hka:k=a.size:=by omega
    have hkey:(X=0↔a=b):=by
     rw[hiff,hka,List.take_of_length_le (by rw[ba_len];exact Nat.le_refl _),List.take_of_length_le (by rw[ba_len,HL.out];exact Nat.le_refl _)]
     exact ⟨fun h=>ba_ext h,fun h=>by rw[h]⟩
    have hres:decide (a=b)=((X:Int)==0):=by
     by_cases h:X=0
     ·rw[decide_eq_true (hkey.1 h),h];rfl
     ·rw[decide_eq_false (fun e=>h (hkey.2 e))]
      exact (beq_eq_false_iff_ne.2 (by omega)).symm
    have HR:=hide hres
    clear hkey hres hiff
    go_wp2
    go_ret
    rw[HR.out]
    exact ⟨rfl,m,rfl⟩
 ·have jl2:((a.size:Int) != (b.size:Int))=true:=by simp;omega
  have hf:decide (a=b)=false:=decide_eq_false (fun e=>hl (by rw[e]))
  rw[hf]
  clear hl hf
  go_enter Tryz.func70,Tryz.ntmps70
  go_wp2
  go_ret
  exact ⟨rfl,0,rfl⟩
namespace Ref
theorem nb_len (n:Nat):∀ k,(nb n k).length=k
 | 0=>rfl
 | k+1=>by show (nb n k).length+1=k+1;rw[nb_len n k]
theorem nonce_len (n:Nat) (last:Bool):(nonce n last).length=12:=by unfold nonce;rw[List.length_append,nb_len];rfl
def box (key:List UInt8) (n:Nat) (last:Bool) (text:List UInt8):List UInt8:=if key.length=32 then Box.sealed key (nonce n last) [] text else []
end Ref
namespace B64
def bitsN (x:Nat):Nat→List Nat
 | 0=>[]
 | k+1=>bitsN x k++[x/(128/2 ^ k)%2]
def bits8 (b:UInt8):List Nat:=bitsN b.toNat 8
def bitsL (l:List UInt8):List Nat:=l.flatMap bits8
theorem bitsN_len (x:Nat):∀ k,(bitsN x k).length=k
 | 0=>rfl
 | k+1=>by rw[bitsN,List.length_append,bitsN_len x k];rfl
theorem bitsL_len:∀ l:List UInt8,(bitsL l).length=8*l.length
 | []=>rfl
 | b::r=>by
  have h:=bitsL_len r
  unfold bitsL at h ⊢
  rw[List.flatMap_cons,List.length_append,h,bits8,bitsN_len,List.length_cons]
  omega
end B64
namespace B64
def letters:List UInt8:=[65,66,67,68,69,70,71,72,73,74,75,76,77,78,79,80,81,82,83,84,85,86,87,88,89,90,97,98,99,100,101,102,103,104,105,106,107,108,109,110,111,112,113,114,115,116,117,118,119,120,121,122,48,49,50,51,52,53,54,55,56,57,43,47]
def letter (v:Nat):UInt8:=letters.getD v 0
def gap (m:Nat):Nat:=(6-m%6)%6
def bits6 (l:List UInt8):List Nat:=bitsL l++List.replicate (gap (8*l.length)) 0
def val (P:List Nat) (i:Nat):Nat→Nat
 | 0=>0
 | k+1=>2*val P i k+P.getD (i+k) 0
def encN (P:List Nat) (k:Nat):List UInt8:=(List.range k).map fun j=>letter (val P (6*j) 6)
def enc (l:List UInt8):List UInt8:=encN (bits6 l) ((bits6 l).length/6)
theorem encN_succ (P:List Nat) (k:Nat):encN P (k+1)=encN P k++[letter (val P (6*k) 6)]:=by simp[encN,List.range_succ]
theorem gap_end (m:Nat):(m+gap m)%6=0:=by unfold gap;omega
theorem gap_lt (m:Nat):gap m<6:=by unfold gap;omega
theorem bitsN_bit (x:Nat):∀ (k:Nat),∀ b ∈ bitsN x k,b<2
 | 0,b,h=>by cases h
 | k+1,b,h=>by
  rw[bitsN] at h
  rcases List.mem_append.1 h with h | h
  ·exact bitsN_bit x k b h
  ·rw[List.mem_singleton.1 h];exact Nat.mod_lt _ (by decide)
theorem bits6_bit (l:List UInt8):∀ b ∈ bits6 l,b<2:=by
 intro b h
 rcases List.mem_append.1 h with h | h
 ·obtain ⟨x,_,hx⟩:=List.mem_flatMap.1 h
  exact bitsN_bit _ _ b hx
 ·rw[(List.mem_replicate.1 h).2];decide
theorem bits6_len (l:List UInt8):(bits6 l).length=8*l.length+gap (8*l.length):=by
 unfold bits6
 rw[List.length_append,bitsL_len,List.length_replicate]
theorem getD_bit {P:List Nat} (h:∀ b ∈ P,b<2) (i:Nat):P.getD i 0<2:=by
 rw[List.getD_eq_getElem?_getD]
 cases hi:P[i]? with
 | none=>decide
 | some b=>exact h b (List.mem_of_getElem? hi)
theorem val_lt {P:List Nat} (h:∀ b ∈ P,b<2) (i:Nat):∀ k,val P i k<2 ^ k
 | 0=>by rw[val];decide
 | k+1=>by
  have h1:=val_lt h i k
  have h2:=getD_bit h (i+k)
  rw[val,Nat.pow_succ]
  omega
end B64
theorem Row.anyN {w:World} {base:Nat} {e:TypeId} {size:Nat} {v:Value} {n:Nat} {xs:List Value} (hr:Row w base e size v n xs):∃ ao cap,v = .slice ao n cap∧n≤cap∧cap≤maxLen:=by
 rcases hr.2 with ⟨rfl,h0⟩ | ⟨g,cap,cur,rfl,_,_,hc,hm,_⟩
 ·exact ⟨none,0,by rw[h0],by omega,by decide⟩
 ·exact ⟨_,_,rfl,hc,hm⟩
namespace B64
def place (c:UInt8):Nat:=letters.idxOf c
theorem place_letter (v:Nat) (h:v<64):place (letter v)=v:=by
 have hall:∀ v:Fin 64,place (letter v.val)=v.val:=by decide +kernel
 exact hall ⟨v,h⟩
theorem letter_place (c:UInt8) (h:place c<64):letter (place c)=c:=by
 have h1:place c<letters.length:=h
 unfold letter
 rw[List.getD_eq_getElem?_getD,List.getElem?_eq_getElem h1]
 exact List.getElem_idxOf h1
theorem place_le (c:UInt8):place c≤64:=by
 have:place c≤letters.length:=List.idxOf_le_length
 exact this
end B64
theorem letter_at (i:Nat) (h:i<(⟨#[65,66,67,68,69,70,71,72,73,74,75,76,77,78,79,80,81,82,83,84,85,86,87,88,89,90,97,98,99,100,101,102,103,104,105,106,107,108,109,110,111,112,113,114,115,116,117,118,119,120,121,122,48,49,50,51,52,53,54,55,56,57,43,47]⟩:ByteArray).size):((⟨#[65,66,67,68,69,70,71,72,73,74,75,76,77,78,79,80,81,82,83,84,85,86,87,88,89,90,97,98,99,100,101,102,103,104,105,106,107,108,109,110,111,112,113,114,115,116,117,118,119,120,121,122,48,49,50,51,52,53,54,55,56,57,43,47]⟩:ByteArray)[i]'h)=B64.letter i:=by
 rw[byte_at]
 rfl
namespace B64
def bitsM (x:Nat):Nat→List Nat
 | 0=>[]
 | k+1=>bitsM x k++[x/(32/2 ^ k)%2]
def bitsT (t:List UInt8):List Nat:=t.flatMap fun c=>bitsM (place c) 6
def decN (P:List Nat) (k:Nat):List UInt8:=(List.range k).map fun j=>UInt8.ofNat (val P (8*j) 8)
def dec (t:List UInt8):List UInt8:=decN (bitsT t) ((bitsT t).length/8)
def decAns (t:List UInt8):List UInt8 × Int:=if enc (dec t)=t then (dec t,0) else ([],5)
theorem bitsM_len (x:Nat):∀ k,(bitsM x k).length=k
 | 0=>rfl
 | k+1=>by rw[bitsM,List.length_append,bitsM_len x k];rfl
theorem bitsT_len:∀ l:List UInt8,(bitsT l).length=6*l.length
 | []=>rfl
 | b::r=>by
  have h:=bitsT_len r
  unfold bitsT at h ⊢
  rw[List.flatMap_cons,List.length_append,h,bitsM_len,List.length_cons]
  omega
theorem bitsM_bit (x:Nat):∀ (k:Nat),∀ b ∈ bitsM x k,b<2
 | 0,b,h=>by cases h
 | k+1,b,h=>by
  rw[bitsM] at h
  rcases List.mem_append.1 h with h | h
  ·exact bitsM_bit x k b h
  ·rw[List.mem_singleton.1 h];exact Nat.mod_lt _ (by decide)
theorem bitsT_bit (l:List UInt8):∀ b ∈ bitsT l,b<2:=by
 intro b h
 obtain ⟨x,_,hx⟩:=List.mem_flatMap.1 h
 exact bitsM_bit _ _ b hx
theorem decN_succ (P:List Nat) (k:Nat):decN P (k+1)=decN P k++[UInt8.ofNat (val P (8*k) 8)]:=by simp[decN,List.range_succ]
theorem enc_letters (l:List UInt8):∀ c ∈ enc l,place c<64:=by
 intro c h
 obtain ⟨j,_,rfl⟩:=List.mem_map.1 h
 have hv:=val_lt (bits6_bit l) (6*j) 6
 rw[place_letter _ hv]
 exact hv
theorem decAns_bad (t:List UInt8) (c:UInt8) (hc:c ∈ t) (h:¬ place c<64):decAns t=([],5):=by
 unfold decAns
 rw[if_neg]
 intro e
 rw[←e] at hc
 exact h (enc_letters _ c hc)
end B64
namespace B64
end B64
namespace Hd
def line1:List UInt8:=[116,105,110,121,45,98,111,120,47,49,10]
def wrapB:List UInt8:=[45,62,32,119,114,97,112,32]
def mark:List UInt8:=[45,45,45]
def at_ (l:List ByteArray) (i:Nat):List UInt8:=(l.getD i ⟨#[]⟩).data.toList
def entry (s b:List UInt8):List UInt8:=wrapB++B64.enc s++[32]++B64.enc b++[10]
def bodyP (ss bs:List ByteArray):Nat→List UInt8
 | 0=>line1
 | k+1=>bodyP ss bs k++entry (at_ ss k) (at_ bs k)
def body (ss bs:List ByteArray):List UInt8:=bodyP ss bs ss.length++mark
end Hd
theorem Strs.at {w:World} {v:Value} {l:List ByteArray} (h:Strs w v l) (i:Nat) (hi:i<l.length):∃ g o c,v = .slice (some ⟨g,o,none⟩) l.length c∧g<w.heap.size∧w.cell? ⟨g,o+i,none⟩=some (.string (l.getD i ⟨#[]⟩)):=by
 rcases h with ⟨rfl,_⟩ | ⟨g,o,c,rfl,hc⟩
 ·exact absurd hi (by simp)
 ·have h1:=hc i l[i] (List.getElem?_eq_getElem hi)
  refine ⟨g,o,c,rfl,World.block_lt_of_cell? w _ h1,?_⟩
  rw[h1,List.getD_eq_getElem?_getD,List.getElem?_eq_getElem hi]
  rfl
theorem Strs.len {w:World} {v:Value} {l:List ByteArray} (h:Strs w v l):∃ ao c,v = .slice ao l.length c:=by
 rcases h with ⟨rfl,ao,c,rfl⟩ | ⟨g,o,c,rfl,_⟩
 ·exact ⟨_,_,rfl⟩
 ·exact ⟨_,_,rfl⟩
namespace Hd
def text (ss bs:List ByteArray) (mac:ByteArray):List UInt8:=body ss bs++[32]++B64.enc mac.data.toList++[10]
def prAns (ss bs:List ByteArray) (mac:ByteArray):List UInt8 × Int:=
 if ss.length=0∨3<ss.length∨bs.length≠ss.length then ([],2)
 else if (∃ i,i<ss.length∧((ss.getD i ⟨#[]⟩).size≠16∨(bs.getD i ⟨#[]⟩).size≠32))∨mac.size≠32 then ([],1)
 else (text ss bs mac,0)
end Hd
theorem wpList_append_strB {ops:Array Oper} {rest:List Oper} {o:Oper} {a:Act} {w:World} {Q:Exit→Act→World→Prop} (hgd:o.guard=none) (s x:Operand)
  (ho:o.op = .call { callee:=.builtin .append,args:=#[s,x],argTypes:=#[25,25] })
  (base:Nat) (v:Value) (n:Nat) (xs:List ByteArray) (hs:a.eval s=v) (hown:Row w base 9 1 v n (strV xs))
  (g:Nat) (y:ByteArray) (hx:a.eval x = .slice (some ⟨g,0,none⟩) 1 1) (hnew:w.cell? ⟨g,0,none⟩=some (.string y)) (hn:n≤1099511627) (hbase:base≤w.heap.size)
  (h:∀ v' w',Row w' base 9 1 v' (n+1) (strV (xs++[y]))→w.grownBy w' v.ownBlock→(v'.ownBlock=v.ownBlock∨∃ g,v'.ownBlock=some g∧w.heap.size≤g)→wpList Tryz.prog ops Q rest (a.put o.dst v') w'):wpList Tryz.prog ops Q (o::rest) a w:=by
 obtain ⟨i0,hi,hz0,hz1,hz2⟩:=info_parts infoStr
 refine wpList_plain hgd fun _ hK=>?_
 refine wp_append_row s x 25 ho i0 (.string ByteArray.empty) 16 Tryz.underlying25 hi hz0 hz1 hz2 rfl (by decide) v n (strV xs) hs hown ⟨g,0,none⟩ 1 1 [.string y] hx rfl ?_ ?_ ?_ ?_ hbase ?_
 ·intro j u hj
  match j,hj with
  | 0,hj=>simp at hj;subst hj;rw[Addr.add_mid];exact hnew
 ·intro u hu;simp at hu;subst hu;rfl
 ·unfold maxLen;omega
 ·omega
 ·intro v' w' h1 h2 h3
  exact hK _ _ (h v' w' (by simpa [strV] using h1) h2 h3)
namespace Hd
def cutS (s:ByteArray) (c:UInt8):Nat→List ByteArray × Nat
 | 0=>([],0)
 | k+1=>if s.data.toList.getD k 0=c then ((cutS s c k).1++[s.extract (cutS s c k).2 k],k+1) else cutS s c k
def cut (s:ByteArray) (c:UInt8):List ByteArray:=(cutS s c s.size).1++[s.extract (cutS s c s.size).2 s.size]
theorem cutS_le (s:ByteArray) (c:UInt8):∀ k,(cutS s c k).1.length≤k∧(cutS s c k).2≤k
 | 0=>⟨Nat.le_refl _,Nat.le_refl _⟩
 | k+1=>by
  have h:=cutS_le s c k
  rw[cutS]
  split
  ·exact ⟨by rw[List.length_append];simp;omega,Nat.le_refl _⟩
  ·omega
end Hd
namespace Hd
def byT (x:ByteArray):ByteArray:=⟨(B64.decAns x.data.toList).1.toArray⟩
structure St where
 ss:List ByteArray
 bs:List ByteArray
 mac:ByteArray
def nil:St:=⟨[],[],⟨#[]⟩⟩
def stepL (st:St) (line:ByteArray):St:=
 if (cut line 32).length=4 then ⟨st.ss++[byT ((cut line 32).getD 2 ⟨#[]⟩)],st.bs++[byT ((cut line 32).getD 3 ⟨#[]⟩)],st.mac⟩
 else if (cut line 32).length=2 then ⟨st.ss,st.bs,byT ((cut line 32).getD 1 ⟨#[]⟩)⟩
 else st
def lines (ls:List ByteArray):Nat→St
 | 0=>nil
 | k+1=>stepL (lines ls k) (ls.getD (k+1) ⟨#[]⟩)
def parsed (t:ByteArray):St:=lines (cut t 10) ((cut t 10).length-2)
def parAns (t:ByteArray):St × Int:=
 if 284<t.size then (nil,6) else if prAns (parsed t).ss (parsed t).bs (parsed t).mac=(t.data.toList,0) then (parsed t,0) else (nil,6)
end Hd
theorem Row.strs {w:World} {base:Nat} {v:Value} {l:List ByteArray} (h:Row w base 9 1 v l.length (strV l)):Strs w v l:=by
 rcases Nat.eq_zero_or_pos l.length with h0 | h0
 ·obtain ⟨ao,cap,rfl,_⟩:=Row.anyN h
  exact .inl ⟨List.eq_nil_of_length_eq_zero h0,ao,cap,by rw[h0]⟩
 ·obtain ⟨g,cap,cur,rfl,_,hB,_,_,_,htk⟩:=h.open h0
  refine .inr ⟨g,0,cap,rfl,fun i x hx=>?_⟩
  rw[Nat.zero_add]
  exact hB.cell (take_at htk (by simp[strV,hx]))
theorem Strs.below {w w':World} {v:Value} {l:List ByteArray} (h:Strs w v l) {B:Nat} (hb:Below B w w') (hB:∀ g o n c,v = .slice (some ⟨g,o,none⟩) n c→0<l.length→g<B):Strs w' v l:=by
 rcases h with h | ⟨g,o,c,rfl,hc⟩
 ·exact .inl h
 ·refine .inr ⟨g,o,c,rfl,fun i x hx=>?_⟩
  have hl:0<l.length:=Nat.lt_of_le_of_lt (Nat.zero_le i) (List.getElem?_eq_some_iff.1 hx).1
  rw[hb.cell (show (⟨g,o+i,none⟩:Addr).block<B from hB g o _ c rfl hl)]
  exact hc i x hx
theorem Strs.blt {w:World} {v:Value} {l:List ByteArray} (h:Strs w v l):∀ g o n c,v = .slice (some ⟨g,o,none⟩) n c→0<l.length→g<w.heap.size:=by
 intro g o n c hv hl
 obtain ⟨g',o',c',hv',hlt,_⟩:=h.at 0 hl
 rw[hv] at hv'
 cases hv'
 exact hlt
theorem Strs.after {w w':World} {v:Value} {l:List ByteArray} (h:Strs w v l) (hb:Below w.heap.size w w'):Strs w' v l:=h.below hb h.blt
namespace Ref
def inWrap:List UInt8:=[119,114,97,112]
def inHead:List UInt8:=[104,101,97,100,101,114]
def inBody:List UInt8:=[112,97,121,108,111,97,100]
def keyL (ikm salt info:List UInt8):List UInt8:=(expO (macL salt ikm) info 1).take 32
theorem keyL_len (ikm salt info:List UInt8):(keyL ikm salt info).length=32:=by
 unfold keyL
 rw[List.length_take,expO_len]
 rfl
def macH (key:List UInt8) (ss bs:List ByteArray):List UInt8:=macL (keyL key [] inHead) (Hd.body ss bs)
end Ref
theorem u32V_len (l:List Nat):(u32V l).length=l.length:=by simp[u32V]
theorem u32V_get (l:List Nat) (i:Nat) (h:i<l.length):(u32V l)[i]? = some (.int .u32 ((l.getD i 0:Nat):Int)):=by
 simp[u32V,List.getD,h]
theorem u32V_put (l:List Nat) (i x:Nat):(u32V l).set i (.int .u32 ((x:Nat):Int))=u32V (l.set i x):=by
 unfold u32V
 rw[List.map_set]
theorem u8V_len (l:List UInt8):(u8V l).length=l.length:=by simp[u8V]
theorem u8V_one (l:List UInt8):∀ v ∈ u8V l,v.oneCell'=true:=by
 intro v hv
 obtain ⟨x,_,rfl⟩:=List.mem_map.1 hv
 rfl
theorem wpList_load_row {P:Program} {ops:Array Oper} {rest:List Oper} {op:Oper} {a:Act} {w:World} {Q:Exit→Act→World→Prop} (hgd:op.guard=none) (ty:TypeId) (x:Operand) (ho:op.op = .load ty x)
  (b:Nat) (hx:a.eval x = .pointer (some ⟨b,0,none⟩)) (n:Nat) (e:TypeId) (hu:P.underlying ty=some (.array n e)) (hi:(P.info? ty).map (·.size)=some n) (cs:List Value) (t:TypeId) (hb:Blk w b t cs) (hl:cs.length=n)
  (h:wpList P ops Q rest (a.put op.dst (.agg cs.toArray)) w):wpList P ops Q (op::rest) a w:=
 wpList_load_mid hgd ty x ho b 0 hx cs (.array n e) hb.rangeAll hu rfl (by rw[hl];exact hi) h
theorem wpList_store_row {P:Program} {ops:Array Oper} {rest:List Oper} {op:Oper} {a:Act} {w:World} {Q:Exit→Act→World→Prop} (hgd:op.guard=none) (ty:TypeId) (x y:Operand) (ho:op.op = .store ty x y)
  (b:Nat) (hx:a.eval x = .pointer (some ⟨b,0,none⟩)) (n:Nat) (hi:(P.info? ty).map (·.size)=some n) (cs:List Value) (hy:a.eval y = .agg cs.toArray) (hl:cs.length=n) (h1:∀ v ∈ cs,v.oneCell'=true) (old:List Value) (t:TypeId) (hb:Blk w b t old) (hol:old.length=n)
  (h:∀ w',Blk w' b t cs→w.grownBy w' (some b)→wpList P ops Q rest (a.put op.dst undef) w'):wpList P ops Q (op::rest) a w:=
 wpList_store_blk hgd ty x y ho b 0 cs.toArray hx hy (by rw[hi];simp[hl]) (all_oneCell_toArray h1) t old hb (by simp[hl,hol])
  fun w' h1 h2=>h w' (by rw[laidOver_all _ _ (by simp[hl,hol])] at h1;exact h1) h2
theorem ret_rowB {P:Program} {fn:Func} {R:Ending→World→Prop} {a:Act} {w:World} {p:Tmp} {ty:TypeId} (h:fn.results = #[.cell p ty]) (b:Nat) (hp:a.tmps.getD p undef = .pointer (some ⟨b,0,none⟩))
  (n:Nat) (e:TypeId) (hu:P.underlying ty=some (.array n e)) (hi:(P.info? ty).map (·.size)=some n) (cs:List Value) (t:TypeId) (hb:Blk w b t cs) (hl:cs.length=n) (hdf:a.defers=[])
  (hR:R (.returned (.agg cs.toArray)) w):bodyPost P fn R .ret a w:=
 ret_row h b 0 hp cs (.array n e) hb.rangeAll hu rfl (by rw[hl];exact hi) hdf hR
theorem Row.zero {w:World} {base g:Nat} {e:TypeId} (hb:base≤g) (h:Blk w g e []):Row w base e 1 (.slice (some ⟨g,0,none⟩) 0 0) 0 []:=
 ⟨rfl,.inr ⟨g,0,[],rfl,hb,h.marked,Nat.le_refl _,by decide,rfl,rfl⟩⟩
theorem wpList_stop {P:Program} {ops:Array Oper} {rest:List Oper} {op:Oper} {a:Act} {w:World} {Q:Exit→Act→World→Prop} (x:Op) (_:op.op=x) (h:Hid (wpList P ops Q (op::rest) a w)):wpList P ops Q (op::rest) a w:=h
theorem wpList_at {P:Program} {ops:Array Oper} {rest:List Oper} {op:Oper} {a:Act} {w:World} {Q:Exit→Act→World→Prop} (x:Op) (_:op.op=x) (h:wpList P ops Q (op::rest) a w):wpList P ops Q (op::rest) a w:=h
theorem wpList_letterW {P:Program} {ops:Array Oper} {l:List Oper} {a:Act} {w:World} {Q:Exit→Act→World→Prop} (F:World→Prop) (hF:F w) (h:∀ w',F w'→wpList P ops Q l a w'):Hid (wpList P ops Q l a w):=h w hF
theorem or_rotl_int (v n:Nat) (hv:v<4294967296) (hn:n≤32):
  bits .or .u32 ((v:Int)*2 ^ n%4294967296) ((v:Int)/2 ^ (32-n))=(Cha.rotl v n:Nat):=by
 have e1:((v:Int)/2 ^ (32-n))=((v/2 ^ (32-n):Nat):Int):=by rw[Int.natCast_ediv,Int.natCast_pow];rfl
 have e2:((v:Int)*2 ^ n%4294967296)=((v*2 ^ n%4294967296:Nat):Int):=by
  rw[←cast_mulmod,Int.natCast_pow];rfl
 have hp:2 ^ (32-n)*2 ^ n=4294967296:=by rw[←Nat.pow_add,show 32-n+n=32 by omega]
 have hq:0<2 ^ (32-n):=Nat.two_pow_pos _
 have h1:v/2 ^ (32-n)<2 ^ n:=(Nat.div_lt_iff_lt_mul hq).2 (by rw[Nat.mul_comm,hp];exact hv)
 have h3:v*2 ^ n%4294967296=v%2 ^ (32-n)*2 ^ n:=by rw[←hp,Nat.mul_mod_mul_right]
 have h4:v/2 ^ (32-n)<4294967296:=Nat.lt_of_le_of_lt (Nat.div_le_self _ _) hv
 rw[e1,e2,u32_or_nat _ _ (Nat.mod_lt _ (by omega)) h4,h3,or_shift _ _ _ h1]
 rfl
set_option maxHeartbeats 400000 in
theorem turnLeft_any (v n:Nat) (w:World) (hv:v<4294967296) (hn:n≤32):
  Calls Tryz.prog 137 #[.int .u32 v,.int .u32 n] w fun e w'=>e = .returned (.int .u32 (Cha.rotl v n:Nat))∧w'=w:=by
 go_enter Tryz.func137,Tryz.ntmps137
 go_wp2
 go_ret
 exact ⟨ret_int (or_rotl_int v n hv hn),rfl⟩
theorem sumc (a b:Nat):((a:Int)+(b:Int))%4294967296=(((a+b)%4294967296:Nat):Int):=by omega
theorem info16:(Tryz.prog.info? 155).map (·.size)=some 16:=by kernel_rfl
theorem zeros32_len (n:Nat):(zeros32 n).length=n:=by simp[zeros32]
theorem half_nums (a b c d m n:Nat) (hm:m≤32) (hn:n≤32) (_:a<4294967296) (hb:b<4294967296) (_:c<4294967296) (hd:d<4294967296):
  ∃ a1 x1 d1 c1 x2 b1:Nat,(⟨a1,b1,c1,d1⟩:Cha.Q4)=Cha.Q4.half ⟨a,b,c,d⟩ m n∧((a:Int)+(b:Int))%4294967296=(a1:Int)∧bits .xor .u32 (d:Int) (a1:Int)=(x1:Int)∧d1=Cha.rotl x1 m∧((c:Int)+(d1:Int))%4294967296=(c1:Int)∧bits .xor .u32 (b:Int) (c1:Int)=(x2:Int)∧b1=Cha.rotl x2 n ∧
   x1<4294967296∧x2<4294967296∧a1<4294967296∧b1<4294967296∧c1<4294967296∧d1<4294967296:=by
 have q (x:Nat):x%4294967296<4294967296:=Nat.mod_lt _ (by decide)
 have x1:=Nat.xor_lt_two_pow (n:=32) hd (q (a+b))
 have x2:=Nat.xor_lt_two_pow (n:=32) hb (q (c+Cha.rotl (d ^^^ (a+b)%4294967296) m))
 exact ⟨_,_,_,_,_,_,rfl,sumc a b,u32_xor_nat _ _ hd (q _),rfl,sumc _ _,u32_xor_nat _ _ hb (q _),rfl,x1,x2,q _,Cha.rotl_lt _ _ hn x2,q _,Cha.rotl_lt _ _ hm x1⟩
set_option maxRecDepth 100000 in
set_option maxHeartbeats 1600000 in
theorem quarter_any (l:List Nat) (i j k m:Nat) (w:World) (hl:Cha.Ok l) (hi:i<16) (hj:j<16) (hk:k<16) (hm:m<16)
  (h1:i≠j) (h2:i≠k) (h3:i≠m) (h4:j≠k) (h5:j≠m) (h6:k≠m):
  Calls Tryz.prog 133 #[.agg (u32V l).toArray,.int .i64 (i:Nat),.int .i64 (j:Nat),.int .i64 (k:Nat),.int .i64 (m:Nat)] w fun e w'=>e = .returned (.agg (u32V (Cha.quarter l i j k m)).toArray)∧Below w.heap.size w w':=by
 have hq:=Cha.quarter_eq l i j k m hl.1 hi hj hk hm h1 h2 h3 h4 h5 h6
 obtain ⟨a1,x1,d1,c1,x2,b1,e1,s1,t1,r1,s2,t2,r2,y1,y2,ba,bb,bc,bd⟩:=half_nums (l.getD i 0) (l.getD j 0) (l.getD k 0) (l.getD m 0) 16 12 (by decide) (by decide) (hl.at i hi) (hl.at j hj) (hl.at k hk) (hl.at m hm)
 obtain ⟨a2,x3,d2,c2,x4,b2,e2,s3,t3,r3,s4,t4,r4,y3,y4,_,_,_,_⟩:=half_nums a1 b1 c1 d1 8 7 (by decide) (by decide) ba bb bc bd
 unfold Cha.q4 at hq
 rw[←e1,←e2] at hq
 have hlen:=hl.1
 have HQ:=hide hq
 have HL:=hide hlen
 have T1:=hide (fun w=>turnLeft_any x1 16 w y1 (by decide))
 have T2:=hide (fun w=>turnLeft_any x2 12 w y2 (by decide))
 have T3:=hide (fun w=>turnLeft_any x3 8 w y3 (by decide))
 have T4:=hide (fun w=>turnLeft_any x4 7 w y4 (by decide))
 rw[←r1] at T1
 rw[←r2] at T2
 rw[←r3] at T3
 rw[←r4] at T4
 have G1:=u32V_get l i (by omega)
 have G2:=u32V_get l j (by omega)
 have G3:=u32V_get l k (by omega)
 have G4:=u32V_get l m (by omega)
 generalize l.getD i 0=va at *
 generalize l.getD j 0=vb at *
 generalize l.getD k 0=vc at *
 generalize l.getD m 0=vd at *
 clear hq e1 e2 r1 r2 r3 r4 y1 y2 y3 y4 ba bb bc bd hl hlen h1 h2 h3 h4 h5 h6
 have ji:(i:Int)<16:=by omega
 have jj:(j:Int)<16:=by omega
 have jk:(k:Int)<16:=by omega
 have jm:(m:Int)<16:=by omega
 go_enter Tryz.func133,Tryz.ntmps133
 go_wp2_with (with_reducible refine wpList_stop (.indexAddr 155 (.tmp 5) (.tmp 15)) rfl ?_)
 refine wpList_letterW (fun w'=>Blk w' w.heap.size 155 (u32V l)∧Blk w' (w.heap.size+1) 155 (u32V (zeros32 16))∧Below w.heap.size w w') ⟨(Blk.new rfl rfl).alloc _,Blk.new (by simp) rfl,((Below.refl _ _).alloc (Nat.le_refl _) _).alloc (by simp) _⟩ ?_
 rintro w1 ⟨hB0,hB1,hbe⟩
 have g1:=hB0.cell G1
 have g2:=hB0.cell G2
 have g3:=hB0.cell G3
 have g4:=hB0.cell G4
 have f:=hB0.frozen
 go_wp2_with fail
 refine (T1.out _).mono ?_
 rintro e w' ⟨rfl,rfl⟩
 go_wp2_with fail
 refine (T2.out _).mono ?_
 rintro e w' ⟨rfl,rfl⟩
 go_wp2_with fail
 refine (T3.out _).mono ?_
 rintro e w' ⟨rfl,rfl⟩
 go_wp2_with fail
 refine (T4.out _).mono ?_
 rintro e w' ⟨rfl,rfl⟩
 clear T1 T2 T3 T4
 go_wp2_with (with_reducible refine wpList_stop (.indexAddr 155 (.tmp 5) (.tmp 58)) rfl ?_)
 clear g1 g2 g3 g4 G1 G2 G3 G4 s1 s2 s3 s4 t1 t2 t3 t4
 refine wpList_letterW (fun w'=>Blk w' w.heap.size 155 (u32V (l.set i a2))∧Blk w' (w.heap.size+1) 155 (u32V (zeros32 16))∧Below w.heap.size w w') ⟨by have h:=hB0.setCell_same i (.int .u32 (a2:Nat));rw[u32V_put] at h;exact h,hB1.setCell_other _ _ (by simp),hbe.setCell (by simp) _⟩ ?_
 clear hB0 hB1 hbe f
 rintro w2 ⟨hB0,hB1,hbe⟩
 have f:=hB0.frozen
 have g2:=hB0.cell (u32V_get (l.set i a2) j (by have:=HL.out;simp;omega))
 go_wp2_with (with_reducible refine wpList_stop (.indexAddr 155 (.tmp 5) (.tmp 61)) rfl ?_)
 refine wpList_letterW (fun w'=>Blk w' w.heap.size 155 (u32V ((l.set i a2).set j b2))∧Blk w' (w.heap.size+1) 155 (u32V (zeros32 16))∧Below w.heap.size w w') ⟨by have h:=hB0.setCell_same j (.int .u32 (b2:Nat));rw[u32V_put] at h;exact h,hB1.setCell_other _ _ (by simp),hbe.setCell (by simp) _⟩ ?_
 clear hB0 hB1 hbe f g2
 rintro w3 ⟨hB0,hB1,hbe⟩
 have f:=hB0.frozen
 have g3:=hB0.cell (u32V_get ((l.set i a2).set j b2) k (by have:=HL.out;simp;omega))
 go_wp2_with (with_reducible refine wpList_stop (.indexAddr 155 (.tmp 5) (.tmp 64)) rfl ?_)
 refine wpList_letterW (fun w'=>Blk w' w.heap.size 155 (u32V (((l.set i a2).set j b2).set k c2))∧Blk w' (w.heap.size+1) 155 (u32V (zeros32 16))∧Below w.heap.size w w') ⟨by have h:=hB0.setCell_same k (.int .u32 (c2:Nat));rw[u32V_put] at h;exact h,hB1.setCell_other _ _ (by simp),hbe.setCell (by simp) _⟩ ?_
 clear hB0 hB1 hbe f g3
 rintro w4 ⟨hB0,hB1,hbe⟩
 have f:=hB0.frozen
 have g4:=hB0.cell (u32V_get (((l.set i a2).set j b2).set k c2) m (by have:=HL.out;simp;omega))
 go_wp2_with (with_reducible refine wpList_stop (.load 155 (.tmp 5)) rfl ?_)
 refine wpList_letterW (fun w'=>Blk w' w.heap.size 155 (u32V ((((l.set i a2).set j b2).set k c2).set m d2))∧Blk w' (w.heap.size+1) 155 (u32V (zeros32 16))∧Below w.heap.size w w') ⟨by have h:=hB0.setCell_same m (.int .u32 (d2:Nat));rw[u32V_put] at h;exact h,hB1.setCell_other _ _ (by simp),hbe.setCell (by simp) _⟩ ?_
 clear hB0 hB1 hbe f g4
 rintro w5 ⟨hB0,hB1,hbe⟩
 have f:=hB0.frozen
 have LQ:=hide (show (u32V ((((l.set i a2).set j b2).set k c2).set m d2)).length=16 by rw[u32V_len];have:=HL.out;simpa using this)
 have LZ:=hide ((u32V_len (zeros32 16)).trans (zeros32_len 16))
 generalize (((l.set i a2).set j b2).set k c2).set m d2=l2 at *
 go_wp2_with (first | ((with_reducible refine wpList_at (.load 155 (.tmp 5)) rfl ?_);refine wpList_load_row rfl 155 (.tmp 5) rfl w.heap.size rfl 16 150 Tryz.underlying155 info16 (u32V l2) 155 hB0 LQ.out ?_) | ((with_reducible refine wpList_at (.store 155 (.tmp 10) (.tmp 67)) rfl ?_);refine wpList_store_row rfl 155 (.tmp 10) (.tmp 67) rfl (w.heap.size+1) rfl 16 info16 (u32V l2) rfl LQ.out (u32V_one _) (u32V (zeros32 16)) 155 hB1 LZ.out ?_;intro w9 hB9 hG9))
 exact ret_rowB Tryz.results133 (w.heap.size+1) rfl 16 150 Tryz.underlying155 info16 (u32V l2) 155 hB9 LQ.out rfl ⟨by rw[HQ.out],hbe.trans (RowKit.Below.of_grown hG9 (by omega) hbe.size)⟩
end Go.Proofs.YtoifalcpfnacnaaGreatDoor
