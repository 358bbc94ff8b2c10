import Derived.Lib.AppendStr
import Derived.Test.YtmjekklgefdolaaGreatDoorWr7
namespace Go.Proofs.YtmjekklgefdolaaGreatDoor
open Go.RowKit
theorem laidOver_cons (cs:List Value) (o:Nat) (v:Value) (r:List Value) (hl:o<cs.length):laidOver (cs.set o v) (o+1) r=laidOver cs o (v::r):=by
 unfold laidOver
 rw[List.take_succ_eq_append_getElem (by simpa using hl),List.getElem_set_self,List.take_set_of_le (Nat.le_refl _),List.drop_set_of_lt (by omega)]
 simp only[List.length_cons,List.append_assoc,List.cons_append,List.nil_append]
 rw[show o+1+r.length=o+(r.length+1) by omega]
theorem foldl_set (off:Nat):∀ (vs:List Value) (k:Nat) (cs:Array Value),off+k+vs.length≤cs.size →
  ((vs.zipIdx k).foldl (fun (cs:Array Value) (x:Value × Nat)=>cs.setIfInBounds (off+x.2) x.1) cs).toList=laidOver cs.toList (off+k) vs
 | [],k,cs,_=>by simp[laidOver]
 | v::r,k,cs,h=>by
  simp only[List.length_cons] at h
  rw[List.zipIdx_cons,List.foldl_cons,foldl_set off r (k+1) _ (by simp;omega)]
  show laidOver (cs.setIfInBounds (off+k) v).toList (off+(k+1)) r=_
  rw[Array.toList_setIfInBounds]
  exact laidOver_cons cs.toList (off+k) v r (by simp;omega)
theorem foldl_arr (off:Nat) (vs cs:Array Value) (h:off+vs.size≤cs.size):
  vs.zipIdx.foldl (fun (cs:Array Value) (x:Value × Nat)=>cs.setIfInBounds (off+x.2) x.1) cs=(laidOver cs.toList off vs.toList).toArray:=by
 rw[←Array.foldl_toList,Array.toList_zipIdx]
 apply Array.toList_inj.1
 rw[foldl_set off vs.toList 0 cs (by simpa using h)]
 simp
def zMac:List Value:=hcells zst z64 0++hcells zst z64 0
theorem zMac_len:zMac.length=146:=by rw[zMac,List.length_append,hcells_len zst z64 0 rfl]
theorem laid_two (z a b:List Value) (hz:z.length=146) (ha:a.length=73) (hb:b.length=73):laidOver (laidOver z 0 a) 73 b=a++b:=by
 have h1:laidOver z 0 a=a++z.drop 73:=by unfold laidOver;simp[ha]
 rw[h1]
 unfold laidOver
 rw[List.take_left' ha,List.drop_eq_nil_of_le (by simp[ha,hb,hz]),List.append_nil]
theorem fill_two (z a b:List Value) (hz:z.length=146) (ha:a.length=73) (hb:b.length=73):
  Instr.fill (fun i=>([(0,73),(73,73)]:List (Nat × Nat)).toArray[i]?) z.toArray [(0,.agg a.toArray),(1,.agg b.toArray)]=some (a++b).toArray:=by
 have e1:=foldl_arr 0 a.toArray z.toArray (by simp[ha,hz])
 have hl:(laidOver z 0 a).length=146:=by simp[laidOver,ha,hz]
 have e2:=foldl_arr 73 b.toArray (laidOver z 0 a).toArray (by rw[List.size_toArray,List.size_toArray,hb,hl];decide)
 simp only at e1 e2
 rw[laid_two z a b hz ha hb] at e2
 unfold Instr.fill
 simp only[Value.cells]
 rw[show ([(0,73),(73,73)]:List (Nat × Nat)).toArray[0]? = some (0,73) from rfl]
 simp only[List.size_toArray,ha,hz]
 rw[if_neg (by decide),e1]
 unfold Instr.fill
 simp only[Value.cells]
 rw[show ([(0,73),(73,73)]:List (Nat × Nat)).toArray[1]? = some (73,73) from rfl]
 simp only[List.size_toArray,hb,hl]
 rw[if_neg (by decide),e2]
 rfl
theorem built_struct {P:Program} {t:TypeId} {it:TypeInfo} {z:Value} {places:List (Nat × Nat)} {fs:Array Field} (hi:P.info? t=some it) (hu:P.underlying t=some (.struct fs)) (hz:it.zero=some z)
  (hp:fs.toList.mapM (fun f=>(P.info? f.type).map fun i=>(f.offset,i.size))=some places) (parts:List (Nat × Value)):P.built t parts=Instr.fill (fun i=>places.toArray[i]?) z.cells parts:=by
 unfold Program.built
 simp only[hi,hu,hz,hp]
theorem infoMacZ:(Tryz.prog.info? 142).map (·.zero)=some (some (.agg zMac.toArray)):=by kernel_rfl
theorem placesMac:∃ fs,Tryz.prog.underlying 142=some (.struct fs)∧fs.toList.mapM (fun f=>(Tryz.prog.info? f.type).map fun i=>(f.offset,i.size))=some [(0,73),(73,73)]:=⟨_,Tryz.underlying142,by kernel_rfl⟩
theorem built_mac (a b:List Value) (ha:a.length=73) (hb:b.length=73) (w:World):(Instr.build 142 #[(0,.agg a.toArray),(1,.agg b.toArray)]).run Tryz.prog w = .ok (.agg (a++b).toArray) w:=by
 refine run_build w 142 _ _ ?_
 obtain ⟨it,hi,hz⟩:=Option.map_eq_some_iff.1 infoMacZ
 obtain ⟨fs,hu,hp⟩:=placesMac
 rw[built_struct hi hu hz hp]
 exact fill_two zMac a b zMac_len ha hb
theorem step_run {P:Program} {ops:Array Oper} {o:Oper} {a:Act} {w:World} {K:Act→World→Prop} {Q:Exit→Act→World→Prop} {E:Prop} (hg:o.guard=none) (v:Value) (w':World)
  (hr:(execOp a.eval o).run P w = .ok (.value v) w') (hK:K (a.put o.dst v) w'):if Region.wanted o (yielded ops a.tmps)=true then Oper.wp P o a w K Q else E:=by
 rw[if_pos (by simp[Region.wanted,hg])]
 unfold Oper.wp
 rw[hr]
 exact hK
theorem run_build2 {P:Program} {a:Act} {o:Oper} {w:World} (t:TypeId) (x y:Operand) (h:o.op = .build t #[(0,x),(1,y)]) {u v r:Value} (hx:a.eval x=u) (hy:a.eval y=v) (hr:(Instr.build t #[(0,u),(1,v)]).run P w = .ok r w):(execOp a.eval o).run P w = .ok (.value r) w:=by
 subst hx hy
 simp[execOp,h,hr]
theorem run_box2 {P:Program} {a:Act} {o:Oper} {w:World} (t:TypeId) (x:Operand) (h:o.op = .box t x) {cs:Array Value} (hx:a.eval x = .agg cs):(execOp a.eval o).run P w = .ok (.value (.pointer (some ⟨w.heap.size,0,none⟩))) (w.alloc (.cells cs t)):=by
 simp[execOp,h,hx,Instr.box,newVar,newRow,Value.cells]
theorem run_assign {P:Program} {a:Act} {o:Oper} {w:World} (x:Operand) (h:o.op = .assign x) {v:Value} (hx:a.eval x=v):(execOp a.eval o).run P w = .ok (.value v) w:=by
 subst hx
 simp[execOp,h]
set_option maxRecDepth 100000 in
set_option maxHeartbeats 800000 in
theorem kbegin_short (key:ByteArray) (w:World) (hl:key.size≤64) (hk:KTab w) (hH:HTab w) (h2:2≤w.heap.size):
  Calls Tryz.prog 43 #[.string key] w fun e w'=>∃ b,e = .returned (.pointer (some ⟨b,0,none⟩))∧w.heap.size≤b∧MRep w' b 142 key.data.toList []∧Below w.heap.size w w':=by
 have hkl:key.data.toList.length=key.size:=by rw[Array.length_toList];rfl
 have hp1:=padL_short key.data.toList 0x36 (by omega)
 have hp2:=padL_short key.data.toList 0x5c (by omega)
 have HP1:=hide hp1
 have HP2:=hide hp2
 clear hp1 hp2 hkl
 have jl:¬ (64:Int)<(key.size:Int):=by omega
 go_enter Tryz.func43,Tryz.ntmps43
 go_wp2_with fail
 refine (begun_any key 0x36 _ hl hk hH h2).mono ?_
 rintro e w1 ⟨b1,rfl,hge1,hr1,hb1⟩
 have hk1:=hk.below hb1 h2
 have hH1:=hH.below hb1 h2
 have hs1:=hb1.size
 rw[←HP1.out] at hr1
 have hl1:=hr1.lt
 clear hk hH
 go_wp2_with fail
 refine (begun_any key 0x5c _ hl hk1 hH1 (by omega)).mono ?_
 rintro e w2 ⟨b2,rfl,hge2,hr2,hb2⟩
 have hr12:=hr1.below hb2 hl1
 rw[←HP2.out] at hr2
 have HB:=hide (hb1.trans (hb2.mono hs1))
 have hge:w.heap.size≤w2.heap.size:=by have:=hb2.size;omega
 obtain ⟨k1,q1,q2,hB1⟩:=hr12
 obtain ⟨k2,q3,q4,hB2⟩:=hr2
 have r1:=hcells_range q1 hB1
 have r2:=hcells_range q3 hB2
 have n1:=hcells_len (Sha.comps (padL key.data.toList 0x36) ((padL key.data.toList 0x36).length/64)) k1 (padL key.data.toList 0x36).length q1
 have n2:=hcells_len (Sha.comps (padL key.data.toList 0x5c) ((padL key.data.toList 0x5c).length/64)) k2 (padL key.data.toList 0x5c).length q3
 have HM:=hide (show ∀ w',Blk w' w2.heap.size 142 (hcells (Sha.comps (padL key.data.toList 0x36) ((padL key.data.toList 0x36).length/64)) k1 (padL key.data.toList 0x36).length++hcells (Sha.comps (padL key.data.toList 0x5c) ((padL key.data.toList 0x5c).length/64)) k2 (padL key.data.toList 0x5c).length)→MRep w' w2.heap.size 142 key.data.toList [] from fun w' hB=>⟨_,_,n1,n2,⟨k1,q1,by simpa using q2,by simpa using hB⟩,⟨k2,q3,q4,by simpa using hB⟩⟩)
 generalize hcells (Sha.comps (padL key.data.toList 0x36) ((padL key.data.toList 0x36).length/64)) k1 (padL key.data.toList 0x36).length=ci at *
 generalize hcells (Sha.comps (padL key.data.toList 0x5c) ((padL key.data.toList 0x5c).length/64)) k2 (padL key.data.toList 0x5c).length=co at *
 have hbd:=built_mac ci co n1 n2
 have s1:(Tryz.prog.info? 135).map (·.size)=some ci.length:=by rw[infoHash,n1]
 have s2:(Tryz.prog.info? 135).map (·.size)=some co.length:=by rw[infoHash,n2]
 have R1:=hide r1
 have R2:=hide r2
 have S1:=hide s1
 have S2:=hide s2
 clear hk1 hH1 hr1 hb1 hb2 hB1 hB2 q1 q2 q3 q4 r1 r2 n1 n2 s1 s2 HP1 HP2 k1 k2
 have HBD:=hide hbd
 clear hbd
 go_wp2
 rename_i K0 back
 refine wp_letter2 3 4 (fun A h3 h4 hz hd=>?_)
 have a3:A.eval (.tmp 3) = .pointer (some ⟨b1,0,none⟩):=h3
 have a4:A.eval (.tmp 4) = .pointer (some ⟨b2,0,none⟩):=h4
 have az:A.tmps.size=22:=hz
 have ad:A.defers=[]:=hd
 clear h3 h4 hz hd
 refine wp_region_any (by kernel_rfl) ?_
 change wpAny _ _ _ _ _ _ _ (World.drew _)
 refine wpAny_take (i:=0) (v:=.pointer (some ⟨b1,0,none⟩)) rfl (by kernel_rfl) (by kernel_rfl) (by kernel_rfl) (fun _ _ _ h=>h) (Or.inl ⟨by rfl,fun w=>?_⟩) ?_
 ·rw[run_move (.tmp 3) rfl,a3]
 change wpAny _ _ _ _ _ _ (Act.put _ (some 14) _) _
 have b14:(A.put (some 14) (.pointer (some ⟨b1,0,none⟩))).eval (.tmp 14) = .pointer (some ⟨b1,0,none⟩):=Act.eval_same _ _ _ (by rw[az];decide)
 have b4:(A.put (some 14) (.pointer (some ⟨b1,0,none⟩))).eval (.tmp 4) = .pointer (some ⟨b2,0,none⟩):=(Act.eval_other _ _ _ _ (by decide)).trans a4
 have bz:(A.put (some 14) (.pointer (some ⟨b1,0,none⟩))).tmps.size=22:=by rw[Act.put_size,az]
 have bd:(A.put (some 14) (.pointer (some ⟨b1,0,none⟩))).defers=[]:=by rw[Act.put_defers',ad]
 generalize A.put (some 14) (.pointer (some ⟨b1,0,none⟩))=B at *
 clear a3 a4 az ad A
 refine wpAny_take (i:=1) (v:=.pointer (some ⟨b1,0,none⟩)) rfl (by kernel_rfl) (by kernel_rfl) (by kernel_rfl) (fun _ _ _ h=>h) (Or.inl ⟨by rfl,fun w=>?_⟩) ?_
 ·exact run_nilCheck (.tmp 14) _ rfl b14
 change wpAny _ _ _ _ _ _ (Act.put _ (some 15) _) _
 have c15:(B.put (some 15) (.pointer (some ⟨b1,0,none⟩))).eval (.tmp 15) = .pointer (some ⟨b1,0,none⟩):=Act.eval_same _ _ _ (by rw[bz];decide)
 have c4:(B.put (some 15) (.pointer (some ⟨b1,0,none⟩))).eval (.tmp 4) = .pointer (some ⟨b2,0,none⟩):=(Act.eval_other _ _ _ _ (by decide)).trans b4
 have cz:(B.put (some 15) (.pointer (some ⟨b1,0,none⟩))).tmps.size=22:=by rw[Act.put_size,bz]
 have cd:(B.put (some 15) (.pointer (some ⟨b1,0,none⟩))).defers=[]:=by rw[Act.put_defers',bd]
 generalize B.put (some 15) (.pointer (some ⟨b1,0,none⟩))=C at *
 clear b14 b4 bz bd B
 refine wpAny_take (i:=3) (v:=.pointer (some ⟨b2,0,none⟩)) rfl (by kernel_rfl) (by kernel_rfl) (by kernel_rfl) (fun _ _ _ h=>h) (Or.inl ⟨by rfl,fun w=>?_⟩) ?_
 ·rw[run_move (.tmp 4) rfl,c4]
 change wpAny _ _ _ _ _ _ (Act.put _ (some 17) _) _
 have d15:(C.put (some 17) (.pointer (some ⟨b2,0,none⟩))).eval (.tmp 15) = .pointer (some ⟨b1,0,none⟩):=(Act.eval_other _ _ _ _ (by decide)).trans c15
 have d17:(C.put (some 17) (.pointer (some ⟨b2,0,none⟩))).eval (.tmp 17) = .pointer (some ⟨b2,0,none⟩):=Act.eval_same _ _ _ (by rw[cz];decide)
 have dz:(C.put (some 17) (.pointer (some ⟨b2,0,none⟩))).tmps.size=22:=by rw[Act.put_size,cz]
 have dd:(C.put (some 17) (.pointer (some ⟨b2,0,none⟩))).defers=[]:=by rw[Act.put_defers',cd]
 generalize C.put (some 17) (.pointer (some ⟨b2,0,none⟩))=D at *
 clear c15 c4 cz cd C
 refine wpAny_take (i:=4) (v:=.pointer (some ⟨b2,0,none⟩)) rfl (by kernel_rfl) (by kernel_rfl) (by kernel_rfl) (fun _ _ _ h=>h) (Or.inl ⟨by rfl,fun w=>?_⟩) ?_
 ·exact run_nilCheck (.tmp 17) _ rfl d17
 change wpAny _ _ _ _ _ _ (Act.put _ (some 18) _) _
 have e15:(D.put (some 18) (.pointer (some ⟨b2,0,none⟩))).eval (.tmp 15) = .pointer (some ⟨b1,0,none⟩):=(Act.eval_other _ _ _ _ (by decide)).trans d15
 have e18:(D.put (some 18) (.pointer (some ⟨b2,0,none⟩))).eval (.tmp 18) = .pointer (some ⟨b2,0,none⟩):=Act.eval_same _ _ _ (by rw[dz];decide)
 have ez:(D.put (some 18) (.pointer (some ⟨b2,0,none⟩))).tmps.size=22:=by rw[Act.put_size,dz]
 have ed:(D.put (some 18) (.pointer (some ⟨b2,0,none⟩))).defers=[]:=by rw[Act.put_defers',dd]
 generalize D.put (some 18) (.pointer (some ⟨b2,0,none⟩))=E at *
 clear d15 d17 dz dd D
 refine wpAny_ready (rs:=[2,5]) (by kernel_rfl) (by simp) ?_
 refine AllReady.cons rfl (fun K hK=>?_) (AllReady.cons rfl (fun K hK=>?_) AllReady.nil)
 ·refine step_load_mid rfl 135 (.tmp 15) rfl b1 0 e15 ci _ R1.out Tryz.underlying135 rfl S1.out ?_
  refine hK _ _ ?_
  clear hK K
  change wpAny _ _ _ _ _ _ (Act.put _ (some 16) _) _
  have f16:(E.put (some 16) (.agg ci.toArray)).eval (.tmp 16) = .agg ci.toArray:=Act.eval_same _ _ _ (by rw[ez];decide)
  have f18:(E.put (some 16) (.agg ci.toArray)).eval (.tmp 18) = .pointer (some ⟨b2,0,none⟩):=(Act.eval_other _ _ _ _ (by decide)).trans e18
  have fz:(E.put (some 16) (.agg ci.toArray)).tmps.size=22:=by rw[Act.put_size,ez]
  have fd:(E.put (some 16) (.agg ci.toArray)).defers=[]:=by rw[Act.put_defers',ed]
  generalize E.put (some 16) (.agg ci.toArray)=F at *
  clear e15 e18 ez ed E
  refine wpAny_ready (rs:=[5]) (by kernel_rfl) (by simp) ?_
  refine AllReady.cons rfl (fun K hK=>?_) AllReady.nil
  refine step_load_mid rfl 135 (.tmp 18) rfl b2 0 f18 co _ R2.out Tryz.underlying135 rfl S2.out ?_
  refine hK _ _ ?_
  clear hK K
  change wpAny _ _ _ _ _ _ (Act.put _ (some 19) _) _
  have g16:(F.put (some 19) (.agg co.toArray)).eval (.tmp 16) = .agg ci.toArray:=(Act.eval_other _ _ _ _ (by decide)).trans f16
  have g19:(F.put (some 19) (.agg co.toArray)).eval (.tmp 19) = .agg co.toArray:=Act.eval_same _ _ _ (by rw[fz];decide)
  have gz:(F.put (some 19) (.agg co.toArray)).tmps.size=22:=by rw[Act.put_size,fz]
  have gd:(F.put (some 19) (.agg co.toArray)).defers=[]:=by rw[Act.put_defers',fd]
  generalize F.put (some 19) (.agg co.toArray)=G at *
  clear f16 f18 fz fd F
  refine wpAny_ready (rs:=[6]) (by kernel_rfl) (by simp) ?_
  refine AllReady.cons rfl (fun K hK=>?_) AllReady.nil
  refine step_run rfl (.agg (ci++co).toArray) _ (run_build2 142 (.tmp 16) (.tmp 19) rfl g16 g19 (HBD.out _)) ?_
  refine hK _ _ ?_
  clear hK K
  change wpAny _ _ _ _ _ _ (Act.put _ (some 20) _) _
  have i20:(G.put (some 20) (.agg (ci++co).toArray)).eval (.tmp 20) = .agg (ci++co).toArray:=Act.eval_same _ _ _ (by rw[gz];decide)
  have iz:(G.put (some 20) (.agg (ci++co).toArray)).tmps.size=22:=by rw[Act.put_size,gz]
  have id:(G.put (some 20) (.agg (ci++co).toArray)).defers=[]:=by rw[Act.put_defers',gd]
  generalize G.put (some 20) (.agg (ci++co).toArray)=I at *
  clear g16 g19 gz gd G
  refine wpAny_ready (rs:=[7]) (by kernel_rfl) (by simp) ?_
  refine AllReady.cons rfl (fun K hK=>?_) AllReady.nil
  refine step_run rfl (.pointer (some ⟨w2.heap.size,0,none⟩)) (w2.drew.alloc (.cells (ci++co).toArray 142)) (run_box2 142 (.tmp 20) rfl i20) ?_
  refine hK _ _ ?_
  clear hK K
  change wpAny _ _ _ _ _ _ (Act.put _ (some 21) _) _
  have j21:(I.put (some 21) (.pointer (some ⟨w2.heap.size,0,none⟩))).eval (.tmp 21) = .pointer (some ⟨w2.heap.size,0,none⟩):=Act.eval_same _ _ _ (by rw[iz];decide)
  have jz:(I.put (some 21) (.pointer (some ⟨w2.heap.size,0,none⟩))).tmps.size=22:=by rw[Act.put_size,iz]
  have jd:(I.put (some 21) (.pointer (some ⟨w2.heap.size,0,none⟩))).defers=[]:=by rw[Act.put_defers',id]
  generalize I.put (some 21) (.pointer (some ⟨w2.heap.size,0,none⟩))=J at *
  clear i20 iz id I
  refine wpAny_ready (rs:=[8]) (by kernel_rfl) (by simp) ?_
  refine AllReady.cons rfl (fun K hK=>?_) AllReady.nil
  refine step_run rfl (.pointer (some ⟨w2.heap.size,0,none⟩)) _ (run_assign (.tmp 21) rfl j21) ?_
  refine hK _ _ ?_
  clear hK K
  change wpAny _ _ _ _ _ _ (Act.put _ (some 2) _) _
  have u2:(J.put (some 2) (.pointer (some ⟨w2.heap.size,0,none⟩))).eval (.tmp 2) = .pointer (some ⟨w2.heap.size,0,none⟩):=Act.eval_same _ _ _ (by rw[jz];decide)
  have uz:(J.put (some 2) (.pointer (some ⟨w2.heap.size,0,none⟩))).tmps.size=22:=by rw[Act.put_size,jz]
  have ud:(J.put (some 2) (.pointer (some ⟨w2.heap.size,0,none⟩))).defers=[]:=by rw[Act.put_defers',jd]
  generalize J.put (some 2) (.pointer (some ⟨w2.heap.size,0,none⟩))=U at *
  refine wpAny_done (by kernel_rfl) ?_ _
  refine back _ _ (wp_ret ?_)
  refine bodyPost_ret (results_tmp rfl _ _ _) ud ?_
  refine ⟨w2.heap.size,congrArg Ending.returned u2,hge,HM.out _ (Blk.new rfl rfl),HB.out.drew.alloc hge _⟩
 ·refine step_load_mid rfl 135 (.tmp 18) rfl b2 0 e18 co _ R2.out Tryz.underlying135 rfl S2.out ?_
  refine hK _ _ ?_
  clear hK K
  change wpAny _ _ _ _ _ _ (Act.put _ (some 19) _) _
  have f19:(E.put (some 19) (.agg co.toArray)).eval (.tmp 19) = .agg co.toArray:=Act.eval_same _ _ _ (by rw[ez];decide)
  have f15:(E.put (some 19) (.agg co.toArray)).eval (.tmp 15) = .pointer (some ⟨b1,0,none⟩):=(Act.eval_other _ _ _ _ (by decide)).trans e15
  have fz:(E.put (some 19) (.agg co.toArray)).tmps.size=22:=by rw[Act.put_size,ez]
  have fd:(E.put (some 19) (.agg co.toArray)).defers=[]:=by rw[Act.put_defers',ed]
  generalize E.put (some 19) (.agg co.toArray)=F at *
  clear e15 e18 ez ed E
  refine wpAny_ready (rs:=[2]) (by kernel_rfl) (by simp) ?_
  refine AllReady.cons rfl (fun K hK=>?_) AllReady.nil
  refine step_load_mid rfl 135 (.tmp 15) rfl b1 0 f15 ci _ R1.out Tryz.underlying135 rfl S1.out ?_
  refine hK _ _ ?_
  clear hK K
  change wpAny _ _ _ _ _ _ (Act.put _ (some 16) _) _
  have g19:(F.put (some 16) (.agg ci.toArray)).eval (.tmp 19) = .agg co.toArray:=(Act.eval_other _ _ _ _ (by decide)).trans f19
  have g16:(F.put (some 16) (.agg ci.toArray)).eval (.tmp 16) = .agg ci.toArray:=Act.eval_same _ _ _ (by rw[fz];decide)
  have gz:(F.put (some 16) (.agg ci.toArray)).tmps.size=22:=by rw[Act.put_size,fz]
  have gd:(F.put (some 16) (.agg ci.toArray)).defers=[]:=by rw[Act.put_defers',fd]
  generalize F.put (some 16) (.agg ci.toArray)=G at *
  clear f19 f15 fz fd F
  refine wpAny_ready (rs:=[6]) (by kernel_rfl) (by simp) ?_
  refine AllReady.cons rfl (fun K hK=>?_) AllReady.nil
  refine step_run rfl (.agg (ci++co).toArray) _ (run_build2 142 (.tmp 16) (.tmp 19) rfl g16 g19 (HBD.out _)) ?_
  refine hK _ _ ?_
  clear hK K
  change wpAny _ _ _ _ _ _ (Act.put _ (some 20) _) _
  have i20:(G.put (some 20) (.agg (ci++co).toArray)).eval (.tmp 20) = .agg (ci++co).toArray:=Act.eval_same _ _ _ (by rw[gz];decide)
  have iz:(G.put (some 20) (.agg (ci++co).toArray)).tmps.size=22:=by rw[Act.put_size,gz]
  have id:(G.put (some 20) (.agg (ci++co).toArray)).defers=[]:=by rw[Act.put_defers',gd]
  generalize G.put (some 20) (.agg (ci++co).toArray)=I at *
  clear g16 g19 gz gd G
  refine wpAny_ready (rs:=[7]) (by kernel_rfl) (by simp) ?_
  refine AllReady.cons rfl (fun K hK=>?_) AllReady.nil
  refine step_run rfl (.pointer (some ⟨w2.heap.size,0,none⟩)) (w2.drew.alloc (.cells (ci++co).toArray 142)) (run_box2 142 (.tmp 20) rfl i20) ?_
  refine hK _ _ ?_
  clear hK K
  change wpAny _ _ _ _ _ _ (Act.put _ (some 21) _) _
  have j21:(I.put (some 21) (.pointer (some ⟨w2.heap.size,0,none⟩))).eval (.tmp 21) = .pointer (some ⟨w2.heap.size,0,none⟩):=Act.eval_same _ _ _ (by rw[iz];decide)
  have jz:(I.put (some 21) (.pointer (some ⟨w2.heap.size,0,none⟩))).tmps.size=22:=by rw[Act.put_size,iz]
  have jd:(I.put (some 21) (.pointer (some ⟨w2.heap.size,0,none⟩))).defers=[]:=by rw[Act.put_defers',id]
  generalize I.put (some 21) (.pointer (some ⟨w2.heap.size,0,none⟩))=J at *
  clear i20 iz id I
  refine wpAny_ready (rs:=[8]) (by kernel_rfl) (by simp) ?_
  refine AllReady.cons rfl (fun K hK=>?_) AllReady.nil
  refine step_run rfl (.pointer (some ⟨w2.heap.size,0,none⟩)) _ (run_assign (.tmp 21) rfl j21) ?_
  refine hK _ _ ?_
  clear hK K
  change wpAny _ _ _ _ _ _ (Act.put _ (some 2) _) _
  have u2:(J.put (some 2) (.pointer (some ⟨w2.heap.size,0,none⟩))).eval (.tmp 2) = .pointer (some ⟨w2.heap.size,0,none⟩):=Act.eval_same _ _ _ (by rw[jz];decide)
  have uz:(J.put (some 2) (.pointer (some ⟨w2.heap.size,0,none⟩))).tmps.size=22:=by rw[Act.put_size,jz]
  have ud:(J.put (some 2) (.pointer (some ⟨w2.heap.size,0,none⟩))).defers=[]:=by rw[Act.put_defers',jd]
  generalize J.put (some 2) (.pointer (some ⟨w2.heap.size,0,none⟩))=U at *
  refine wpAny_done (by kernel_rfl) ?_ _
  refine back _ _ (wp_ret ?_)
  refine bodyPost_ret (results_tmp rfl _ _ _) ud ?_
  refine ⟨w2.heap.size,congrArg Ending.returned u2,hge,HM.out _ (Blk.new rfl rfl),HB.out.drew.alloc hge _⟩
set_option maxRecDepth 100000 in
set_option maxHeartbeats 800000 in
theorem kbegin_long (key0:ByteArray) (w0:World) (hl0:64<key0.size) (hlb:key0.size<2 ^ 59) (hk0:KTab w0) (hH0:HTab w0) (h20:2≤w0.heap.size):
  Calls Tryz.prog 43 #[.string key0] w0 fun e w'=>∃ b,e = .returned (.pointer (some ⟨b,0,none⟩))∧w0.heap.size≤b∧MRep w' b 142 key0.data.toList []∧Below w0.heap.size w0 w':=by
 have hkl:key0.data.toList.length=key0.size:=by rw[Array.length_toList];rfl
 have hp1:=padL_long key0.data.toList 0x36 (by omega)
 have hp2:=padL_long key0.data.toList 0x5c (by omega)
 have href:=shaSum_any key0 w0 hlb hk0 hH0 h20
 have hsl:(Sha.sum key0.data.toList).length=32:=Sha.sum_len _
 generalize Sha.sum key0.data.toList=sm at *
 obtain ⟨key,hkey⟩:∃ key:ByteArray,key=⟨sm.toArray⟩:=⟨_,rfl⟩
 have hks:key.data.toList=sm:=by rw[hkey]
 have hl:key.size≤64:=by rw[hkey];show sm.toArray.size≤64;rw[List.size_toArray];omega
 rw[←hkey] at href
 rw[←hks] at hp1 hp2
 have HP1:=hide hp1
 have HP2:=hide hp2
 have HREF:=hide href
 clear hp1 hp2 hkl href hks hkey hsl
 have jl:(64:Int)<(key0.size:Int):=by omega
 go_enter Tryz.func43,Tryz.ntmps43
 go_wp2_with fail
 refine HREF.out.mono ?_
 rintro e w ⟨rfl,hb0⟩
 have hk:=hk0.below hb0 h20
 have hH:=hH0.below hb0 h20
 have h2:2≤w.heap.size:=Nat.le_trans h20 hb0.size
 have HB0:=hide hb0
 clear hb0 hk0 hH0 HREF
 go_wp2_with fail
 refine (begun_any key 0x36 _ hl hk hH h2).mono ?_
 rintro e w1 ⟨b1,rfl,hge1,hr1,hb1⟩
 have hk1:=hk.below hb1 h2
 have hH1:=hH.below hb1 h2
 have hs1:=hb1.size
 rw[←HP1.out] at hr1
 have hl1:=hr1.lt
 clear hk hH
 go_wp2_with fail
 refine (begun_any key 0x5c _ hl hk1 hH1 (by omega)).mono ?_
 rintro e w2 ⟨b2,rfl,hge2,hr2,hb2⟩
 have hr12:=hr1.below hb2 hl1
 rw[←HP2.out] at hr2
 have HB:=hide (HB0.out.trans ((hb1.trans (hb2.mono hs1)).mono HB0.out.size))
 have hge:w0.heap.size≤w2.heap.size:=by have:=hb2.size;have:=HB0.out.size;omega
 obtain ⟨k1,q1,q2,hB1⟩:=hr12
 obtain ⟨k2,q3,q4,hB2⟩:=hr2
 have r1:=hcells_range q1 hB1
 have r2:=hcells_range q3 hB2
 have n1:=hcells_len (Sha.comps (padL key0.data.toList 0x36) ((padL key0.data.toList 0x36).length/64)) k1 (padL key0.data.toList 0x36).length q1
 have n2:=hcells_len (Sha.comps (padL key0.data.toList 0x5c) ((padL key0.data.toList 0x5c).length/64)) k2 (padL key0.data.toList 0x5c).length q3
 have HM:=hide (show ∀ w',Blk w' w2.heap.size 142 (hcells (Sha.comps (padL key0.data.toList 0x36) ((padL key0.data.toList 0x36).length/64)) k1 (padL key0.data.toList 0x36).length++hcells (Sha.comps (padL key0.data.toList 0x5c) ((padL key0.data.toList 0x5c).length/64)) k2 (padL key0.data.toList 0x5c).length)→MRep w' w2.heap.size 142 key0.data.toList [] from fun w' hB=>⟨_,_,n1,n2,⟨k1,q1,by simpa using q2,by simpa using hB⟩,⟨k2,q3,q4,by simpa using hB⟩⟩)
 generalize hcells (Sha.comps (padL key0.data.toList 0x36) ((padL key0.data.toList 0x36).length/64)) k1 (padL key0.data.toList 0x36).length=ci at *
 generalize hcells (Sha.comps (padL key0.data.toList 0x5c) ((padL key0.data.toList 0x5c).length/64)) k2 (padL key0.data.toList 0x5c).length=co at *
 have hbd:=built_mac ci co n1 n2
 have s1:(Tryz.prog.info? 135).map (·.size)=some ci.length:=by rw[infoHash,n1]
 have s2:(Tryz.prog.info? 135).map (·.size)=some co.length:=by rw[infoHash,n2]
 have R1:=hide r1
 have R2:=hide r2
 have S1:=hide s1
 have S2:=hide s2
 clear hk1 hH1 hr1 hb1 hb2 hB1 hB2 q1 q2 q3 q4 r1 r2 n1 n2 s1 s2 HP1 HP2 k1 k2
 have HBD:=hide hbd
 clear hbd
 go_wp2
 rename_i K0 back
 refine wp_letter2 3 4 (fun A h3 h4 hz hd=>?_)
 have a3:A.eval (.tmp 3) = .pointer (some ⟨b1,0,none⟩):=h3
 have a4:A.eval (.tmp 4) = .pointer (some ⟨b2,0,none⟩):=h4
 have az:A.tmps.size=22:=hz
 have ad:A.defers=[]:=hd
 clear h3 h4 hz hd
 refine wp_region_any (by kernel_rfl) ?_
 change wpAny _ _ _ _ _ _ _ (World.drew _)
 refine wpAny_take (i:=0) (v:=.pointer (some ⟨b1,0,none⟩)) rfl (by kernel_rfl) (by kernel_rfl) (by kernel_rfl) (fun _ _ _ h=>h) (Or.inl ⟨by rfl,fun w=>?_⟩) ?_
 ·rw[run_move (.tmp 3) rfl,a3]
 change wpAny _ _ _ _ _ _ (Act.put _ (some 14) _) _
 have b14:(A.put (some 14) (.pointer (some ⟨b1,0,none⟩))).eval (.tmp 14) = .pointer (some ⟨b1,0,none⟩):=Act.eval_same _ _ _ (by rw[az];decide)
 have b4:(A.put (some 14) (.pointer (some ⟨b1,0,none⟩))).eval (.tmp 4) = .pointer (some ⟨b2,0,none⟩):=(Act.eval_other _ _ _ _ (by decide)).trans a4
 have bz:(A.put (some 14) (.pointer (some ⟨b1,0,none⟩))).tmps.size=22:=by rw[Act.put_size,az]
 have bd:(A.put (some 14) (.pointer (some ⟨b1,0,none⟩))).defers=[]:=by rw[Act.put_defers',ad]
 generalize A.put (some 14) (.pointer (some ⟨b1,0,none⟩))=B at *
 clear a3 a4 az ad A
 refine wpAny_take (i:=1) (v:=.pointer (some ⟨b1,0,none⟩)) rfl (by kernel_rfl) (by kernel_rfl) (by kernel_rfl) (fun _ _ _ h=>h) (Or.inl ⟨by rfl,fun w=>?_⟩) ?_
 ·exact run_nilCheck (.tmp 14) _ rfl b14
 change wpAny _ _ _ _ _ _ (Act.put _ (some 15) _) _
 have c15:(B.put (some 15) (.pointer (some ⟨b1,0,none⟩))).eval (.tmp 15) = .pointer (some ⟨b1,0,none⟩):=Act.eval_same _ _ _ (by rw[bz];decide)
 have c4:(B.put (some 15) (.pointer (some ⟨b1,0,none⟩))).eval (.tmp 4) = .pointer (some ⟨b2,0,none⟩):=(Act.eval_other _ _ _ _ (by decide)).trans b4
 have cz:(B.put (some 15) (.pointer (some ⟨b1,0,none⟩))).tmps.size=22:=by rw[Act.put_size,bz]
 have cd:(B.put (some 15) (.pointer (some ⟨b1,0,none⟩))).defers=[]:=by rw[Act.put_defers',bd]
 generalize B.put (some 15) (.pointer (some ⟨b1,0,none⟩))=C at *
 clear b14 b4 bz bd B
 refine wpAny_take (i:=3) (v:=.pointer (some ⟨b2,0,none⟩)) rfl (by kernel_rfl) (by kernel_rfl) (by kernel_rfl) (fun _ _ _ h=>h) (Or.inl ⟨by rfl,fun w=>?_⟩) ?_
 ·rw[run_move (.tmp 4) rfl,c4]
 change wpAny _ _ _ _ _ _ (Act.put _ (some 17) _) _
 have d15:(C.put (some 17) (.pointer (some ⟨b2,0,none⟩))).eval (.tmp 15) = .pointer (some ⟨b1,0,none⟩):=(Act.eval_other _ _ _ _ (by decide)).trans c15
 have d17:(C.put (some 17) (.pointer (some ⟨b2,0,none⟩))).eval (.tmp 17) = .pointer (some ⟨b2,0,none⟩):=Act.eval_same _ _ _ (by rw[cz];decide)
 have dz:(C.put (some 17) (.pointer (some ⟨b2,0,none⟩))).tmps.size=22:=by rw[Act.put_size,cz]
 have dd:(C.put (some 17) (.pointer (some ⟨b2,0,none⟩))).defers=[]:=by rw[Act.put_defers',cd]
 generalize C.put (some 17) (.pointer (some ⟨b2,0,none⟩))=D at *
 clear c15 c4 cz cd C
 refine wpAny_take (i:=4) (v:=.pointer (some ⟨b2,0,none⟩)) rfl (by kernel_rfl) (by kernel_rfl) (by kernel_rfl) (fun _ _ _ h=>h) (Or.inl ⟨by rfl,fun w=>?_⟩) ?_
 ·exact run_nilCheck (.tmp 17) _ rfl d17
 change wpAny _ _ _ _ _ _ (Act.put _ (some 18) _) _
 have e15:(D.put (some 18) (.pointer (some ⟨b2,0,none⟩))).eval (.tmp 15) = .pointer (some ⟨b1,0,none⟩):=(Act.eval_other _ _ _ _ (by decide)).trans d15
 have e18:(D.put (some 18) (.pointer (some ⟨b2,0,none⟩))).eval (.tmp 18) = .pointer (some ⟨b2,0,none⟩):=Act.eval_same _ _ _ (by rw[dz];decide)
 have ez:(D.put (some 18) (.pointer (some ⟨b2,0,none⟩))).tmps.size=22:=by rw[Act.put_size,dz]
 have ed:(D.put (some 18) (.pointer (some ⟨b2,0,none⟩))).defers=[]:=by rw[Act.put_defers',dd]
 generalize D.put (some 18) (.pointer (some ⟨b2,0,none⟩))=E at *
 clear d15 d17 dz dd D
 refine wpAny_ready (rs:=[2,5]) (by kernel_rfl) (by simp) ?_
 refine AllReady.cons rfl (fun K hK=>?_) (AllReady.cons rfl (fun K hK=>?_) AllReady.nil)
 ·refine step_load_mid rfl 135 (.tmp 15) rfl b1 0 e15 ci _ R1.out Tryz.underlying135 rfl S1.out ?_
  refine hK _ _ ?_
  clear hK K
  change wpAny _ _ _ _ _ _ (Act.put _ (some 16) _) _
  have f16:(E.put (some 16) (.agg ci.toArray)).eval (.tmp 16) = .agg ci.toArray:=Act.eval_same _ _ _ (by rw[ez];decide)
  have f18:(E.put (some 16) (.agg ci.toArray)).eval (.tmp 18) = .pointer (some ⟨b2,0,none⟩):=(Act.eval_other _ _ _ _ (by decide)).trans e18
  have fz:(E.put (some 16) (.agg ci.toArray)).tmps.size=22:=by rw[Act.put_size,ez]
  have fd:(E.put (some 16) (.agg ci.toArray)).defers=[]:=by rw[Act.put_defers',ed]
  generalize E.put (some 16) (.agg ci.toArray)=F at *
  clear e15 e18 ez ed E
  refine wpAny_ready (rs:=[5]) (by kernel_rfl) (by simp) ?_
  refine AllReady.cons rfl (fun K hK=>?_) AllReady.nil
  refine step_load_mid rfl 135 (.tmp 18) rfl b2 0 f18 co _ R2.out Tryz.underlying135 rfl S2.out ?_
  refine hK _ _ ?_
  clear hK K
  change wpAny _ _ _ _ _ _ (Act.put _ (some 19) _) _
  have g16:(F.put (some 19) (.agg co.toArray)).eval (.tmp 16) = .agg ci.toArray:=(Act.eval_other _ _ _ _ (by decide)).trans f16
  have g19:(F.put (some 19) (.agg co.toArray)).eval (.tmp 19) = .agg co.toArray:=Act.eval_same _ _ _ (by rw[fz];decide)
  have gz:(F.put (some 19) (.agg co.toArray)).tmps.size=22:=by rw[Act.put_size,fz]
  have gd:(F.put (some 19) (.agg co.toArray)).defers=[]:=by rw[Act.put_defers',fd]
  generalize F.put (some 19) (.agg co.toArray)=G at *
  clear f16 f18 fz fd F
  refine wpAny_ready (rs:=[6]) (by kernel_rfl) (by simp) ?_
  refine AllReady.cons rfl (fun K hK=>?_) AllReady.nil
  refine step_run rfl (.agg (ci++co).toArray) _ (run_build2 142 (.tmp 16) (.tmp 19) rfl g16 g19 (HBD.out _)) ?_
  refine hK _ _ ?_
  clear hK K
  change wpAny _ _ _ _ _ _ (Act.put _ (some 20) _) _
  have i20:(G.put (some 20) (.agg (ci++co).toArray)).eval (.tmp 20) = .agg (ci++co).toArray:=Act.eval_same _ _ _ (by rw[gz];decide)
  have iz:(G.put (some 20) (.agg (ci++co).toArray)).tmps.size=22:=by rw[Act.put_size,gz]
  have id:(G.put (some 20) (.agg (ci++co).toArray)).defers=[]:=by rw[Act.put_defers',gd]
  generalize G.put (some 20) (.agg (ci++co).toArray)=I at *
  clear g16 g19 gz gd G
  refine wpAny_ready (rs:=[7]) (by kernel_rfl) (by simp) ?_
  refine AllReady.cons rfl (fun K hK=>?_) AllReady.nil
  refine step_run rfl (.pointer (some ⟨w2.heap.size,0,none⟩)) (w2.drew.alloc (.cells (ci++co).toArray 142)) (run_box2 142 (.tmp 20) rfl i20) ?_
  refine hK _ _ ?_
  clear hK K
  change wpAny _ _ _ _ _ _ (Act.put _ (some 21) _) _
  have j21:(I.put (some 21) (.pointer (some ⟨w2.heap.size,0,none⟩))).eval (.tmp 21) = .pointer (some ⟨w2.heap.size,0,none⟩):=Act.eval_same _ _ _ (by rw[iz];decide)
  have jz:(I.put (some 21) (.pointer (some ⟨w2.heap.size,0,none⟩))).tmps.size=22:=by rw[Act.put_size,iz]
  have jd:(I.put (some 21) (.pointer (some ⟨w2.heap.size,0,none⟩))).defers=[]:=by rw[Act.put_defers',id]
  generalize I.put (some 21) (.pointer (some ⟨w2.heap.size,0,none⟩))=J at *
  clear i20 iz id I
  refine wpAny_ready (rs:=[8]) (by kernel_rfl) (by simp) ?_
  refine AllReady.cons rfl (fun K hK=>?_) AllReady.nil
  refine step_run rfl (.pointer (some ⟨w2.heap.size,0,none⟩)) _ (run_assign (.tmp 21) rfl j21) ?_
  refine hK _ _ ?_
  clear hK K
  change wpAny _ _ _ _ _ _ (Act.put _ (some 2) _) _
  have u2:(J.put (some 2) (.pointer (some ⟨w2.heap.size,0,none⟩))).eval (.tmp 2) = .pointer (some ⟨w2.heap.size,0,none⟩):=Act.eval_same _ _ _ (by rw[jz];decide)
  have uz:(J.put (some 2) (.pointer (some ⟨w2.heap.size,0,none⟩))).tmps.size=22:=by rw[Act.put_size,jz]
  have ud:(J.put (some 2) (.pointer (some ⟨w2.heap.size,0,none⟩))).defers=[]:=by rw[Act.put_defers',jd]
  generalize J.put (some 2) (.pointer (some ⟨w2.heap.size,0,none⟩))=U at *
  refine wpAny_done (by kernel_rfl) ?_ _
  refine back _ _ (wp_ret ?_)
  refine bodyPost_ret (results_tmp rfl _ _ _) ud ?_
  refine ⟨w2.heap.size,congrArg Ending.returned u2,hge,HM.out _ (Blk.new rfl rfl),HB.out.drew.alloc hge _⟩
 ·refine step_load_mid rfl 135 (.tmp 18) rfl b2 0 e18 co _ R2.out Tryz.underlying135 rfl S2.out ?_
  refine hK _ _ ?_
  clear hK K
  change wpAny _ _ _ _ _ _ (Act.put _ (some 19) _) _
  have f19:(E.put (some 19) (.agg co.toArray)).eval (.tmp 19) = .agg co.toArray:=Act.eval_same _ _ _ (by rw[ez];decide)
  have f15:(E.put (some 19) (.agg co.toArray)).eval (.tmp 15) = .pointer (some ⟨b1,0,none⟩):=(Act.eval_other _ _ _ _ (by decide)).trans e15
  have fz:(E.put (some 19) (.agg co.toArray)).tmps.size=22:=by rw[Act.put_size,ez]
  have fd:(E.put (some 19) (.agg co.toArray)).defers=[]:=by rw[Act.put_defers',ed]
  generalize E.put (some 19) (.agg co.toArray)=F at *
  clear e15 e18 ez ed E
  refine wpAny_ready (rs:=[2]) (by kernel_rfl) (by simp) ?_
  refine AllReady.cons rfl (fun K hK=>?_) AllReady.nil
  refine step_load_mid rfl 135 (.tmp 15) rfl b1 0 f15 ci _ R1.out Tryz.underlying135 rfl S1.out ?_
  refine hK _ _ ?_
  clear hK K
  change wpAny _ _ _ _ _ _ (Act.put _ (some 16) _) _
  have g19:(F.put (some 16) (.agg ci.toArray)).eval (.tmp 19) = .agg co.toArray:=(Act.eval_other _ _ _ _ (by decide)).trans f19
  have g16:(F.put (some 16) (.agg ci.toArray)).eval (.tmp 16) = .agg ci.toArray:=Act.eval_same _ _ _ (by rw[fz];decide)
  have gz:(F.put (some 16) (.agg ci.toArray)).tmps.size=22:=by rw[Act.put_size,fz]
  have gd:(F.put (some 16) (.agg ci.toArray)).defers=[]:=by rw[Act.put_defers',fd]
  generalize F.put (some 16) (.agg ci.toArray)=G at *
  clear f19 f15 fz fd F
  refine wpAny_ready (rs:=[6]) (by kernel_rfl) (by simp) ?_
  refine AllReady.cons rfl (fun K hK=>?_) AllReady.nil
  refine step_run rfl (.agg (ci++co).toArray) _ (run_build2 142 (.tmp 16) (.tmp 19) rfl g16 g19 (HBD.out _)) ?_
  refine hK _ _ ?_
  clear hK K
  change wpAny _ _ _ _ _ _ (Act.put _ (some 20) _) _
  have i20:(G.put (some 20) (.agg (ci++co).toArray)).eval (.tmp 20) = .agg (ci++co).toArray:=Act.eval_same _ _ _ (by rw[gz];decide)
  have iz:(G.put (some 20) (.agg (ci++co).toArray)).tmps.size=22:=by rw[Act.put_size,gz]
  have id:(G.put (some 20) (.agg (ci++co).toArray)).defers=[]:=by rw[Act.put_defers',gd]
  generalize G.put (some 20) (.agg (ci++co).toArray)=I at *
  clear g16 g19 gz gd G
  refine wpAny_ready (rs:=[7]) (by kernel_rfl) (by simp) ?_
  refine AllReady.cons rfl (fun K hK=>?_) AllReady.nil
  refine step_run rfl (.pointer (some ⟨w2.heap.size,0,none⟩)) (w2.drew.alloc (.cells (ci++co).toArray 142)) (run_box2 142 (.tmp 20) rfl i20) ?_
  refine hK _ _ ?_
  clear hK K
  change wpAny _ _ _ _ _ _ (Act.put _ (some 21) _) _
  have j21:(I.put (some 21) (.pointer (some ⟨w2.heap.size,0,none⟩))).eval (.tmp 21) = .pointer (some ⟨w2.heap.size,0,none⟩):=Act.eval_same _ _ _ (by rw[iz];decide)
  have jz:(I.put (some 21) (.pointer (some ⟨w2.heap.size,0,none⟩))).tmps.size=22:=by rw[Act.put_size,iz]
  have jd:(I.put (some 21) (.pointer (some ⟨w2.heap.size,0,none⟩))).defers=[]:=by rw[Act.put_defers',id]
  generalize I.put (some 21) (.pointer (some ⟨w2.heap.size,0,none⟩))=J at *
  clear i20 iz id I
  refine wpAny_ready (rs:=[8]) (by kernel_rfl) (by simp) ?_
  refine AllReady.cons rfl (fun K hK=>?_) AllReady.nil
  refine step_run rfl (.pointer (some ⟨w2.heap.size,0,none⟩)) _ (run_assign (.tmp 21) rfl j21) ?_
  refine hK _ _ ?_
  clear hK K
  change wpAny _ _ _ _ _ _ (Act.put _ (some 2) _) _
  have u2:(J.put (some 2) (.pointer (some ⟨w2.heap.size,0,none⟩))).eval (.tmp 2) = .pointer (some ⟨w2.heap.size,0,none⟩):=Act.eval_same _ _ _ (by rw[jz];decide)
  have uz:(J.put (some 2) (.pointer (some ⟨w2.heap.size,0,none⟩))).tmps.size=22:=by rw[Act.put_size,jz]
  have ud:(J.put (some 2) (.pointer (some ⟨w2.heap.size,0,none⟩))).defers=[]:=by rw[Act.put_defers',jd]
  generalize J.put (some 2) (.pointer (some ⟨w2.heap.size,0,none⟩))=U at *
  refine wpAny_done (by kernel_rfl) ?_ _
  refine back _ _ (wp_ret ?_)
  refine bodyPost_ret (results_tmp rfl _ _ _) ud ?_
  refine ⟨w2.heap.size,congrArg Ending.returned u2,hge,HM.out _ (Blk.new rfl rfl),HB.out.drew.alloc hge _⟩
theorem kbegin_any (key:ByteArray) (w:World) (hl:key.size<2 ^ 59) (hk:KTab w) (hH:HTab w) (h2:2≤w.heap.size):
  Calls Tryz.prog 43 #[.string key] w fun e w'=>∃ b,e = .returned (.pointer (some ⟨b,0,none⟩))∧w.heap.size≤b∧MRep w' b 142 key.data.toList []∧Below w.heap.size w w':=by
 by_cases h:64<key.size
 ·exact kbegin_long key w h hl hk hH h2
 ·exact kbegin_short key w (by omega) hk hH h2
theorem MRep.lt' {w:World} {b:Nat} {t:TypeId} {key l:List UInt8} (h:MRep w b t key l):b<w.heap.size:=by
 obtain ⟨_,_,_,_,h,_⟩:=h
 exact h.lt
theorem blk_inj {w:World} {b:Nat} {t:TypeId} {c d:List Value} (h:Blk w b t c) (h':Blk w b t d):c=d:=by
 unfold Blk at h h'
 rw[h] at h'
 injection h' with e
 injection e with e _ _
 exact congrArg Array.toList e
theorem MRep.same {w:World} {b:Nat} {t:TypeId} {key l:List UInt8} (h:MRep w b t key l):∃ s k s' k',k.length=64∧k'.length=64 ∧
  s=Sha.comps (padL key 0x36++l) ((padL key 0x36++l).length/64)∧k.take ((padL key 0x36++l).length%64)=(padL key 0x36++l).drop (64*((padL key 0x36++l).length/64)) ∧
  s'=Sha.comps (padL key 0x5c) ((padL key 0x5c).length/64)∧k'.take ((padL key 0x5c).length%64)=(padL key 0x5c).drop (64*((padL key 0x5c).length/64)) ∧
  Blk w b t (hcells s k (padL key 0x36++l).length++hcells s' k' (padL key 0x5c).length):=by
 obtain ⟨ci,co,h1,h2,⟨k,hk,ht,hB⟩,⟨k',hk',ht',hB'⟩⟩:=h
 refine ⟨_,k,_,k',hk,hk',rfl,ht,rfl,ht',?_⟩
 have e:hcells (Sha.comps (padL key 0x36++l) ((padL key 0x36++l).length/64)) k (padL key 0x36++l).length++co=ci++hcells (Sha.comps (padL key 0x5c) ((padL key 0x5c).length/64)) k' (padL key 0x5c).length:=by
  simpa using blk_inj hB hB'
 have hl:=List.append_inj e (by rw[hcells_len _ _ _ hk,h1])
 rw[←hl.2]
 simpa using hB
set_option maxRecDepth 100000 in
set_option maxHeartbeats 800000 in
theorem kwrite_any (b:Nat) (key l:List UInt8) (s:ByteArray) (w:World) (hn:l.length+s.size<2 ^ 60) (hb:MRep w b 142 key l) (hk:KTab w) (h2:2≤b):
  Calls Tryz.prog 44 #[.pointer (some ⟨b,0,none⟩),.string s] w fun e w'=>e = .returned (.tuple #[])∧MRep w' b 142 key (l++s.data.toList)∧w.grownBy w' (some b):=by
 obtain ⟨st,k,st',k',q1,q2,q3,q4,q5,q6,hB⟩:=hb.same
 have hpl:=padL_len key 0x36
 have hr:HRep w b 142 [] (hcells st' k' (padL key 0x5c).length) (padL key 0x36++l):=⟨k,q1,q4,by rw[←q3];simpa using hB⟩
 have HW:=hide (hwrite_any b 142 [] (hcells st' k' (padL key 0x5c).length) (padL key 0x36++l) s w (by rw[List.length_append,hpl];omega) hr hk h2)
 have HF:=hide (show ∀ w',HRep w' b 142 [] (hcells st' k' (padL key 0x5c).length) (padL key 0x36++l++s.data.toList)→MRep w' b 142 key (l++s.data.toList) from fun w' h=>by
  obtain ⟨kk,r1,r2,r3⟩:=h
  have hcl:=hcells_len (Sha.comps (padL key 0x36++l++s.data.toList) ((padL key 0x36++l++s.data.toList).length/64)) kk (padL key 0x36++l++s.data.toList).length r1
  refine ⟨_,hcells st' k' (padL key 0x5c).length,hcl,hcells_len _ _ _ q2,⟨kk,r1,by rw[←List.append_assoc];exact r2,by rw[←List.append_assoc];exact r3⟩,⟨k',q2,q6,by rw[←q5];simpa using r3⟩⟩)
 clear hb q1 q2 q3 q4 q5 q6 hB hpl hr hk
 go_enter Tryz.func44,Tryz.ntmps44
 go_wp2_with fail
 refine HW.out.mono ?_
 rintro e w1 ⟨rfl,h1,h3⟩
 have H1:=hide (HF.out _ h1)
 have H3:=hide h3
 clear h1 h3
 go_wp2
 go_end0
 exact ⟨rfl,H1.out,H3.out⟩
def macL (key l:List UInt8):List UInt8:=Sha.sum (padL key 0x5c++Sha.sum (padL key 0x36++l))
theorem macL_len (key l:List UInt8):(macL key l).length=32:=Sha.sum_len _
set_option maxRecDepth 100000 in
set_option maxHeartbeats 800000 in
theorem ksum_any (b:Nat) (key l:List UInt8) (w:World) (hn:l.length<2 ^ 58) (hb:MRep w b 142 key l) (hk:KTab w) (h2:2≤w.heap.size):
  Calls Tryz.prog 45 #[.pointer (some ⟨b,0,none⟩)] w fun e w'=>e = .returned (.string ⟨(macL key l).toArray⟩)∧Below w.heap.size w w':=by
 have hbl:=hb.lt'
 obtain ⟨ci,co,n1,n2,hr1,hr2⟩:=hb
 have hp1:=padL_len key 0x36
 have hp2:=padL_len key 0x5c
 have H1:=hide (hsum_any b 142 [] co (padL key 0x36++l) w (by rw[List.length_append,hp1];omega) hr1 hk h2)
 have hs1:=Sha.sum_len (padL key 0x36++l)
 have hdef:macL key l=Sha.sum (padL key 0x5c++Sha.sum (padL key 0x36++l)):=rfl
 generalize Sha.sum (padL key 0x36++l)=hh at *
 obtain ⟨hs,hhs⟩:∃ hs:ByteArray,hs=⟨hh.toArray⟩:=⟨_,rfl⟩
 have hhl:hs.data.toList=hh:=by rw[hhs]
 have hhz:hs.size=32:=by rw[hhs];show hh.toArray.size=32;rw[List.size_toArray];exact hs1
 rw[←hhs] at H1
 rw[←hhl] at hdef
 generalize padL key 0x5c=po at *
 have HD:=hide hdef
 have HR2:=hide hr2
 have HP2:=hide hp2
 clear hr1 hr2 hp1 hp2 hs1 hhs hhl hdef n2
 go_enter Tryz.func45,Tryz.ntmps45
 go_wp2_with fail
 refine H1.out.mono ?_
 rintro e w1 ⟨rfl,hb1⟩
 have hcp:=copy_any b 142 ci [] po w1 (HR2.out.below hb1 hbl)
 rw[n1] at hcp
 have HCP:=hide hcp
 have hk1:=hk.below hb1 h2
 have h21:2≤w1.heap.size:=Nat.le_trans h2 hb1.size
 have HB1:=hide hb1
 clear hb1 hcp hk H1
 go_wp2_with fail
 refine HCP.out.mono ?_
 rintro e w2 ⟨rfl,hr,hb2⟩
 have hk2:=hk1.below hb2 h21
 have hl2:=hr.lt
 have HW:=hide (hwrite_any w1.heap.size 135 [] [] po hs w2 (by rw[HP2.out,hhz];decide) hr hk2 h21)
 have HB2:=hide (HB1.out.trans (hb2.mono HB1.out.size))
 have hge:w.heap.size≤w1.heap.size:=HB1.out.size
 clear hr hb2 hk1 HCP HB1
 generalize w1.heap.size=nb at *
 go_wp2_with fail
 refine HW.out.mono ?_
 rintro e w3 ⟨rfl,hr3,hg3⟩
 have hb3:Below w.heap.size w w3:=HB2.out.trans (RowKit.Below.of_grown hg3 hge (by omega))
 have hb23:Below nb w2 w3:=RowKit.Below.of_grown hg3 (Nat.le_refl _) (by omega)
 have hk3:=hk2.below hb23 h21
 have hsz3:=hr3.lt
 have HS:=hide (hsum_any nb 135 [] [] (po++hs.data.toList) w3 (by rw[List.length_append,HP2.out,Array.length_toList,show hs.data.size=hs.size from rfl,hhz];decide) hr3 hk3 (by omega))
 rw[←HD.out] at HS
 have HB3:=hide hb3
 clear hr3 hg3 hb3 hb23 hk2 hk3 HB2 HW
 go_wp2_with fail
 refine HS.out.mono ?_
 rintro e w4 ⟨rfl,hb4⟩
 have HB4:=hide (HB3.out.trans (hb4.mono HB3.out.size))
 clear hb4
 go_wp2
 go_ret
 exact ⟨rfl,HB4.out⟩
set_option maxRecDepth 100000 in
set_option maxHeartbeats 800000 in
theorem hmac_any (key text:ByteArray) (w:World) (hkey:key.size<2 ^ 57) (htext:text.size<2 ^ 57) (hk:KTab w) (hH:HTab w) (h2:2≤w.heap.size):
  Calls Tryz.prog 17 #[.string key,.string text] w fun e w'=>e = .returned (.string ⟨(macL key.data.toList text.data.toList).toArray⟩)∧Below w.heap.size w w':=by
 have H1:=hide (kbegin_any key w (by omega) hk hH h2)
 have htl:text.data.toList.length=text.size:=by rw[Array.length_toList];rfl
 have HTL:=hide htl
 clear htl
 go_enter Tryz.func17,Tryz.ntmps17
 go_wp2_with fail
 refine H1.out.mono ?_
 rintro e w1 ⟨b,rfl,hge,hm1,hb1⟩
 have hk1:=hk.below hb1 h2
 have hl1:=hm1.lt'
 have HW:=hide (kwrite_any b key.data.toList [] text w1 (by show 0+text.size<2 ^ 60;omega) hm1 hk1 (by omega))
 have HB1:=hide hb1
 clear hm1 hb1 hk hH H1
 go_wp2_with fail
 refine HW.out.mono ?_
 rintro e w2 ⟨rfl,hm2,hg2⟩
 rw[List.nil_append] at hm2
 have hb2:Below w.heap.size w1 w2:=RowKit.Below.of_grown hg2 hge (by omega)
 have hk2:=hk1.below hb2 h2
 have hl2:=hm2.lt'
 have HS:=hide (ksum_any b key.data.toList text.data.toList w2 (by rw[HTL.out];omega) hm2 hk2 (by omega))
 have HB2:=hide (HB1.out.trans hb2)
 clear hm2 hg2 hb2 hk1 hk2 HW HB1
 go_wp2_with fail
 refine HS.out.mono ?_
 rintro e w3 ⟨rfl,hb3⟩
 have HB3:=hide (HB2.out.trans (hb3.mono HB2.out.size))
 clear hb3
 go_wp2
 go_ret
 exact ⟨rfl,HB3.out⟩
set_option maxHeartbeats 800000 in
theorem extract_any (key text:ByteArray) (w:World) (hkey:key.size<2 ^ 57) (htext:text.size<2 ^ 57) (hk:KTab w) (hH:HTab w) (h2:2≤w.heap.size):
  Calls Tryz.prog 19 #[.string key,.string text] w fun e w'=>e = .returned (.string ⟨(macL key.data.toList text.data.toList).toArray⟩)∧Below w.heap.size w w':=by
 have H1:=hide (hmac_any key text w hkey htext hk hH h2)
 clear hk hH
 go_enter Tryz.func19,Tryz.ntmps19
 go_wp2_with fail
 refine H1.out.mono ?_
 rintro e w1 ⟨rfl,hb1⟩
 have HB1:=hide hb1
 clear hb1
 go_wp2
 go_ret
 exact ⟨rfl,HB1.out⟩
theorem ba_app2 (l:List UInt8) (s:ByteArray):((⟨l.toArray⟩:ByteArray)++s).data.toList=l++s.data.toList:=by
 simp[ByteArray.data_append]
theorem ba_size (l:List UInt8):(⟨l.toArray⟩:ByteArray).size=l.length:=List.size_toArray
set_option maxRecDepth 100000 in
set_option maxHeartbeats 800000 in
theorem refHmac_any (key text:ByteArray) (w:World) (hkey:key.size≤1090000000) (htext:text.size≤1090000000):
  Calls Tryz.prog 18 #[.string key,.string text] w fun e w'=>e = .returned (.string ⟨(macL key.data.toList text.data.toList).toArray⟩)∧Below w.heap.size w w':=by
 have hp1:=padL_len key.data.toList 0x36
 have hp2:=padL_len key.data.toList 0x5c
 have P1:=hide (fun w=>padK_any key 0x36 w (by omega))
 have P2:=hide (fun w=>padK_any key 0x5c w (by omega))
 have hdef:macL key.data.toList text.data.toList=Sha.sum (padL key.data.toList 0x5c++Sha.sum (padL key.data.toList 0x36++text.data.toList)):=rfl
 generalize padL key.data.toList 0x36=pi at *
 generalize padL key.data.toList 0x5c=po at *
 obtain ⟨si,hsi⟩:∃ si:ByteArray,si=⟨pi.toArray⟩:=⟨_,rfl⟩
 obtain ⟨so,hso⟩:∃ so:ByteArray,so=⟨po.toArray⟩:=⟨_,rfl⟩
 rw[←hsi] at P1
 rw[←hso] at P2
 have zi:si.size=64:=by rw[hsi,ba_size,hp1]
 have zo:so.size=64:=by rw[hso,ba_size,hp2]
 have li:(si++text).data.toList=pi++text.data.toList:=by rw[hsi];exact ba_app2 _ _
 have Z1:(si++text).size≤1099511627:=by
  show (si++text).data.size≤_
  rw[←Array.length_toList,li,List.length_append,hp1,Array.length_toList]
  show 64+text.size≤_
  omega
 have S1:=hide (fun w=>refSum_any (si++text) w Z1)
 rw[li] at S1
 have hs1:=Sha.sum_len (pi++text.data.toList)
 generalize Sha.sum (pi++text.data.toList)=hh at *
 obtain ⟨sh,hsh⟩:∃ sh:ByteArray,sh=⟨hh.toArray⟩:=⟨_,rfl⟩
 rw[←hsh] at S1
 have zh:sh.size=32:=by rw[hsh,ba_size,hs1]
 have lo:(so++sh).data.toList=po++hh:=by rw[hso,hsh];exact ba_app2 _ _
 have Z2:(so++sh).size≤1099511627:=by
  show (so++sh).data.size≤_
  rw[←Array.length_toList,lo,List.length_append,hp2,hs1]
  decide
 have S2:=hide (fun w=>refSum_any (so++sh) w Z2)
 rw[lo,←hdef] at S2
 have j1:¬ 9223372036854775807<si.size+text.size:=by omega
 have j2:¬ 9223372036854775807<so.size+sh.size:=by omega
 clear hp1 hp2 hdef hsi hso hsh li lo hs1 Z1 Z2 zi zo zh
 go_enter Tryz.func18,Tryz.ntmps18
 go_wp2_with fail
 refine (P1.out _).mono ?_
 rintro e w1 ⟨rfl,hb1⟩
 have HB1:=hide hb1
 clear hb1 P1
 go_wp2_with fail
 refine (P2.out _).mono ?_
 rintro e w2 ⟨rfl,hb2⟩
 have HB2:=hide (HB1.out.trans (hb2.mono HB1.out.size))
 clear hb2 P2 HB1
 go_wp2_with fail
 refine (S1.out _).mono ?_
 rintro e w3 ⟨rfl,hb3⟩
 have HB3:=hide (HB2.out.trans (hb3.mono HB2.out.size))
 clear hb3 S1 HB2
 go_wp2_with fail
 refine (S2.out _).mono ?_
 rintro e w4 ⟨rfl,hb4⟩
 have HB4:=hide (HB3.out.trans (hb4.mono HB3.out.size))
 clear hb4 S2 HB3
 go_wp2
 go_ret
 exact ⟨rfl,HB4.out⟩
theorem one_str (i:Nat) (hi:i≤255) (w:World):(convert 62 9 (.slice (some ⟨w.heap.size,0,none⟩) 1 1)).run Tryz.prog (w.alloc (.cells #[.int .u8 (i:Int)] 5)) = .ok (.string ⟨#[UInt8.ofNat i]⟩) (w.alloc (.cells #[.int .u8 (i:Int)] 5)):=by
 have hB:Blk (w.alloc (.cells #[.int .u8 (i:Int)] 5)) w.heap.size 5 (u8L [UInt8.ofNat i]):=Blk.new rfl (by simp[u8L];omega)
 exact blk_str hB 1 1 rfl
set_option maxHeartbeats 400000 in
theorem oneByte_any (i:Nat) (hi:i≤255) (w:World):
  Calls Tryz.prog 104 #[.int .i64 (i:Int)] w fun e w'=>e = .returned (.string ⟨#[UInt8.ofNat i]⟩)∧Below w.heap.size w w':=by
 have hcv:=fun w=>one_str i hi w
 have tw:IntKind.u8.wrap (i:Int)=(i:Int):=by show (i:Int)%256=_;omega
 have tm:(i:Int)%256=(i:Int):=by omega
 go_enter Tryz.func104,Tryz.ntmps104
 go_wp2
 go_ret
 exact ⟨rfl,(Below.refl _ _).alloc (Nat.le_refl _) _⟩
def expT (prk info:List UInt8):Nat→List UInt8
 | 0=>[]
 | k+1=>macL prk (expT prk info k++info++[UInt8.ofNat (k+1)])
def expO (prk info:List UInt8):Nat→List UInt8
 | 0=>[]
 | k+1=>expO prk info k++expT prk info (k+1)
theorem expT_len (prk info:List UInt8) (k:Nat):(expT prk info k).length≤32:=by
 cases k with
 | zero=>exact Nat.zero_le _
 | succ k=>exact Nat.le_of_eq (macL_len _ _)
theorem expO_len (prk info:List UInt8):∀ k,(expO prk info k).length=32*k
 | 0=>rfl
 | k+1=>by
  show (expO prk info k++macL _ _).length=_
  rw[List.length_append,expO_len prk info k,macL_len];omega
theorem ba_list (a b:ByteArray):(a++b).data.toList=a.data.toList++b.data.toList:=by simp[ByteArray.data_append]
theorem ba_len (a:ByteArray):a.data.toList.length=a.size:=by rw[Array.length_toList];rfl
theorem ba_sz (a b:ByteArray):(a++b).size=a.size+b.size:=by rw[←ba_len,ba_list,List.length_append,ba_len,ba_len]
set_option maxRecDepth 100000 in
set_option maxHeartbeats 800000 in
theorem expand_any (prk info:ByteArray) (n:Nat) (w:World) (hn:n≤8160) (hprk:prk.size<2 ^ 50) (hinfo:info.size<2 ^ 50) (hk:KTab w) (hH:HTab w) (h2:2≤w.heap.size):
  Calls Tryz.prog 47 #[.string prk,.string info,.int .i64 (n:Int)] w fun e w'=>e = .returned (.string ⟨((expO prk.data.toList info.data.toList ((n+31)/32)).take n).toArray⟩)∧Below w.heap.size w w':=by
 obtain ⟨i0,hi0,hz0,hz1,hz2⟩:=info_parts infoU8
 have HI0:=hide hi0
 have HZ0:=hide hz0
 have HZ1:=hide hz1
 have HZ2:=hide hz2
 have HTL:=hide (expT_len prk.data.toList info.data.toList)
 have HOL:=hide (expO_len prk.data.toList info.data.toList)
 have HT:=hide (show ∀ k,expT prk.data.toList info.data.toList (k+1)=macL prk.data.toList (expT prk.data.toList info.data.toList k++info.data.toList++[UInt8.ofNat (k+1)]) from fun _=>rfl)
 have HO:=hide (show ∀ k,expO prk.data.toList info.data.toList (k+1)=expO prk.data.toList info.data.toList k++expT prk.data.toList info.data.toList (k+1) from fun _=>rfl)
 have HT0:=hide (show expT prk.data.toList info.data.toList 0=[] from rfl)
 have HO0:=hide (show expO prk.data.toList info.data.toList 0=[] from rfl)
 generalize expT prk.data.toList info.data.toList=T at *
 generalize expO prk.data.toList info.data.toList=O at *
 generalize hK:(n+31)/32=K at *
 have HKN:=hide hK
 clear hi0 hz0 hz1 hz2 hK
 go_enter Tryz.func47,Tryz.ntmps47
 go_wp2
 go_loopw [7,8,9] (fun vo vl vi wr=>∃ (k i m:Nat) (last:ByteArray),k≤K∧i=k+1∧m=32*k∧vi = .int .i64 (i:Nat)∧vl = .string last∧last.data.toList=T k∧wr.ownsRow w.heap.size 5 1 vo m (u8L (O k))∧Below w.heap.size w wr∧vo≠.slice none 0 0) (fun _ _ i _=>300-(intOf i).toNat)
 case atStart=>
  refine ⟨0,1,0,⟨#[]⟩,by omega,rfl,rfl,rfl,rfl,by rw[HT0.out],?_,(Below.refl _ _).alloc (Nat.le_refl _) _,by simp⟩
  rw[HO0.out]
  exact ⟨rfl,.inr ⟨w.heap.size,0,#[],rfl,Nat.le_refl _,heap_alloc_new w _,Nat.le_refl _,by decide,rfl,rfl⟩⟩
 case round=>
  obtain ⟨k,i,m,last,hkK,hik,hmk,rfl,rfl,hlast,hown,hbe,hne⟩:=hrel
  obtain ⟨ao,cap,rfl⟩:∃ ao cap,u7 = .slice ao m cap:=by
   rcases hown.2 with ⟨rfl,rfl⟩ | ⟨g,cap,cur,rfl,_⟩
   ·exact ⟨none,0,rfl⟩
   ·exact ⟨_,cap,rfl⟩
  have hKN:=HKN.out
  by_cases hlt:m<n
  ·have hi255:i≤255:=by omega
   have hll:last.size≤32:=by rw[←ba_len,hlast];exact HTL.out k
   have ls:(last++info++(⟨#[UInt8.ofNat i]⟩:ByteArray)).data.toList=T k++info.data.toList++[UInt8.ofNat (k+1)]:=by rw[ba_list,ba_list,hlast,hik]
   have zs:(last++info++(⟨#[UInt8.ofNat i]⟩:ByteArray)).size=last.size+info.size+1:=by rw[ba_sz,ba_sz];rfl
   have j1:¬ 9223372036854775807<last.size+info.size:=by omega
   have j2:¬ 9223372036854775807<(last++info).size+(⟨#[UInt8.ofNat i]⟩:ByteArray).size:=by rw[ba_sz];show ¬ 9223372036854775807<last.size+info.size+1;omega
   have hkr:=hk.below hbe h2
   have hHr:=hH.below hbe h2
   have h2r:2≤wr.heap.size:=Nat.le_trans h2 hbe.size
   have HM:=hide (fun w (a:KTab w) (b:HTab w) (c:2≤w.heap.size)=>hmac_any prk (last++info++(⟨#[UInt8.ofNat i]⟩:ByteArray)) w (by omega) (by rw[zs];omega) a b c)
   rw[ls,←HT.out k] at HM
   have hTl:(T (k+1)).length=32:=by rw[HT.out];exact macL_len _ _
   obtain ⟨nl,hnl⟩:∃ nl:ByteArray,nl=⟨(T (k+1)).toArray⟩:=⟨_,rfl⟩
   have hnll:nl.data.toList=T (k+1):=by rw[hnl]
   have hnlz:nl.size=32:=by rw[hnl,ba_size,hTl]
   rw[←hnl] at HM
   have HONE:=hide (oneByte_any i hi255)
   have HOWN:=hide hown
   have HBE:=hide hbe
   have HNL:=hide hnll
   have HIK:=hide hik
   have HMK:=hide hmk
   have HKR:=hide hkr
   have HHR:=hide hHr
   clear hown hbe ls zs hll hTl hnl hnll hlast hik hmk hkr hHr
   have jm:(m:Int)<(n:Int):=by omega
   generalize (⟨#[UInt8.ofNat i]⟩:ByteArray)=ob at *
   go_wp2_with fail
   refine (HONE.out _).mono ?_
   rintro e w1 ⟨rfl,hb1⟩
   have HOWN1:=hide (HOWN.out.kept (hb1.grownBy none) (by cases hv:Value.ownBlock (.slice ao m cap) <;> simp))
   have HB1:=hide (HBE.out.trans (hb1.mono HBE.out.size))
   have HMM:=hide (HM.out w1 (HKR.out.below hb1 h2r) (HHR.out.below hb1 h2r) (Nat.le_trans h2r hb1.size))
   clear hb1 HOWN HBE HM HONE HKR HHR
   go_wp2_with fail
   refine HMM.out.mono ?_
   rintro e w2 ⟨rfl,hb2⟩
   have HOWN2:=hide (HOWN1.out.kept (hb2.grownBy none) (by cases hv:Value.ownBlock (.slice ao m cap) <;> simp))
   have HB2:=hide (HB1.out.trans (hb2.mono HB1.out.size))
   clear hb2 HOWN1 HB1 HMM
   go_wp2_with (at_builtin;refine Lib.wpList_append_own_string (P:=Tryz.prog) w2 rfl (.tmp 25) (.tmp 26) 62 9 rfl w.heap.size 5 i0 Tryz.underlying62 Tryz.underlying9 HI0.out HZ0.out HZ1.out HZ2.out _ m _ rfl HOWN2.out nl rfl ?_ ?_ HB2.out.size ?_;(unfold maxLen;omega);omega;intro v1 w3 hr1 hg1 hv1)
   go_roundw
   case rel=>
    refine ⟨k+1,i+1,m+nl.size,nl,by have:=HMK.out;omega,by rw[HIK.out],by rw[HMK.out,hnlz];omega,by go_num,rfl,HNL.out,?_,?_,fun e=>hne (hv1.1 e).1⟩
    ·have e:u8L (O (k+1))=u8L (O k)++Lib.strCells nl:=by
      rw[HO.out,u8L_append,←HNL.out];rfl
     rw[e]
     exact hr1
    ·exact Below.grown HB2.out hg1 HB2.out.size (fun k hk=>(HOWN2.out.lt k hk).1)
   case measure=>simp[intOf];omega
  ·have hkk:k=K:=by omega
   have jm:¬ (m:Int)<(n:Int):=by omega
   rcases hown.2 with ⟨hnil,_⟩ | ⟨g,cap',cur,hv,hg1,hg2,hg3,hg4,hg5,hg6⟩
   ·exact absurd hnil hne
   ·injection hv with e1 _ e3
    subst e1 e3
    subst hkk
    have hOl:((O k).take n).length=n:=by rw[List.length_take,HOL.out];omega
    have hB:∀ j u,(u8L (O k))[j]? = some u→wr.cell? ⟨g,j,none⟩=some u:=fun j u hu=>by
     have:=hown.cells (g:=g) rfl j u hu
     rwa [Addr.add_mid,Nat.zero_add] at this
    have hcv:(convert 62 9 (.slice (some ⟨g,0,none⟩) n cap)).run Tryz.prog wr = .ok (.string ⟨((O k).take n).toArray⟩) wr:=by
     have h:=run_convert_bytes_back (P:=Tryz.prog) wr 62 9 5 ⟨g,0,none⟩ cap ((O k).take n) Tryz.underlying62 Tryz.underlying5 Tryz.underlying9 (fun j hj=>by
      rw[Addr.add_mid,Nat.zero_add]
      refine hB j _ ?_
      simp only[List.length_take] at hj
      rw[List.getElem_take]
      simp[u8L,show j<(O k).length by omega])
     rw[hOl] at h
     exact h
    have jc:n≤cap:=by omega
    have HBE:=hide hbe
    unfold maxLen at hg4
    generalize hout:(O k).take n=out at *
    have HOUT:=hide hout
    clear hout
    clear hown hbe hlast hmk hik hkK hKN HTL HOL HT HO HKN hB hg1 hg2 hg5 hg6 hOl HT0 HO0
    go_wp2
    go_ret
    rw[HOUT.out]
    exact ⟨rfl,HBE.out⟩
set_option maxHeartbeats 400000 in
theorem kExpand_bad (prk info:ByteArray) (n:Int) (w:World) (hn:n<0∨8160<n):
  Calls Tryz.prog 20 #[.string prk,.string info,.int .i64 n] w fun e w'=>e = .returned (.tuple #[.string ⟨#[]⟩,.int .i64 2])∧w'=w:=by
 rcases hn with hn | hn
 ·go_enter Tryz.func20,Tryz.ntmps20
  go_wp2
  refine bodyPost_ret (results_tmp2 rfl _ _ _) rfl ?_
  exact ⟨rfl,rfl⟩
 ·have hn0:¬ n<0:=by omega
  go_enter Tryz.func20,Tryz.ntmps20
  go_wp2
  refine bodyPost_ret (results_tmp2 rfl _ _ _) rfl ?_
  exact ⟨rfl,rfl⟩
theorem ba_ext {a b:ByteArray} (h:a.data.toList=b.data.toList):a=b:=ByteArray.ext (Array.toList_inj.1 h)
theorem ext_take (a:ByteArray) (n:Nat):(a.extract 0 n).data.toList=a.data.toList.take n:=by
 simp
set_option maxRecDepth 100000 in
set_option maxHeartbeats 800000 in
theorem refExpand_any (prk info:ByteArray) (n:Nat) (w:World) (hn:n≤8160) (hprk:prk.size≤1090000000) (hinfo:info.size≤1080000000):
  Calls Tryz.prog 21 #[.string prk,.string info,.int .i64 (n:Int)] w fun e w'=>e = .returned (.tuple #[.string ⟨((expO prk.data.toList info.data.toList ((n+31)/32)).take n).toArray⟩,.int .i64 0])∧Below w.heap.size w w':=by
 have j0:¬ (n:Int)<0:=by omega
 have j1:¬ (8160:Int)<(n:Int):=by omega
 have HTL:=hide (expT_len prk.data.toList info.data.toList)
 have HOL:=hide (expO_len prk.data.toList info.data.toList)
 have HT:=hide (show ∀ k,expT prk.data.toList info.data.toList (k+1)=macL prk.data.toList (expT prk.data.toList info.data.toList k++info.data.toList++[UInt8.ofNat (k+1)]) from fun _=>rfl)
 have HO:=hide (show ∀ k,expO prk.data.toList info.data.toList (k+1)=expO prk.data.toList info.data.toList k++expT prk.data.toList info.data.toList (k+1) from fun _=>rfl)
 have HT0:=hide (show expT prk.data.toList info.data.toList 0=[] from rfl)
 have HO0:=hide (show expO prk.data.toList info.data.toList 0=[] from rfl)
 generalize expT prk.data.toList info.data.toList=T at *
 generalize expO prk.data.toList info.data.toList=O at *
 generalize hK:(n+31)/32=K at *
 have HKN:=hide hK
 clear hK
 go_enter Tryz.func21,Tryz.ntmps21
 go_wp2
 go_loopw [8,9,10] (fun vo vl vi wr=>∃ (k i m:Nat) (last out:ByteArray),k≤K∧i=k+1∧m=32*k∧vi = .int .i64 (i:Nat)∧vl = .string last∧last.data.toList=T k∧vo = .string out∧out.data.toList=O k∧Below w.heap.size w wr) (fun _ _ i _=>300-(intOf i).toNat)
 case atStart=>exact ⟨0,1,0,⟨#[]⟩,⟨#[]⟩,by omega,rfl,rfl,rfl,rfl,by rw[HT0.out],rfl,by rw[HO0.out],Below.refl _ _⟩
 case round=>
  obtain ⟨k,i,m,last,out,hkK,hik,hmk,rfl,rfl,hlast,rfl,hout,hbe⟩:=hrel
  have hKN:=HKN.out
  have hoz:out.size=m:=by rw[←ba_len,hout,HOL.out,hmk]
  by_cases hlt:m<n
  ·have hi255:i≤255:=by omega
   have hll:last.size≤32:=by rw[←ba_len,hlast];exact HTL.out k
   have ls:(last++info++(⟨#[UInt8.ofNat i]⟩:ByteArray)).data.toList=T k++info.data.toList++[UInt8.ofNat (k+1)]:=by rw[ba_list,ba_list,hlast,hik]
   have zs:(last++info++(⟨#[UInt8.ofNat i]⟩:ByteArray)).size=last.size+info.size+1:=by rw[ba_sz,ba_sz];rfl
   have k1:¬ 9223372036854775807<last.size+info.size:=by omega
   have k2:¬ 9223372036854775807<(last++info).size+(⟨#[UInt8.ofNat i]⟩:ByteArray).size:=by rw[ba_sz];show ¬ 9223372036854775807<last.size+info.size+1;omega
   have HM:=hide (fun w=>refHmac_any prk (last++info++(⟨#[UInt8.ofNat i]⟩:ByteArray)) w hprk (by rw[zs];omega))
   rw[ls,←HT.out k] at HM
   have hTl:(T (k+1)).length=32:=by rw[HT.out];exact macL_len _ _
   obtain ⟨nl,hnl⟩:∃ nl:ByteArray,nl=⟨(T (k+1)).toArray⟩:=⟨_,rfl⟩
   have hnll:nl.data.toList=T (k+1):=by rw[hnl]
   have hnlz:nl.size=32:=by rw[hnl,ba_size,hTl]
   have k3:¬ 9223372036854775807<out.size+nl.size:=by omega
   rw[←hnl] at HM
   have hcv:=fun w=>one_str i hi255 w
   have tw:IntKind.u8.wrap (i:Int)=(i:Int):=by show (i:Int)%256=_;omega
   have tm:(i:Int)%256=(i:Int):=by omega
   have HON:=hide (show (out++nl).data.toList=O (k+1) by rw[ba_list,hout,hnll,HO.out])
   have HBE:=hide hbe
   have HNL:=hide hnll
   have HIK:=hide hik
   have HMK:=hide hmk
   have HNZ:=hide hnlz
   have jm:(out.size:Int)<(n:Int):=by omega
   clear hbe ls zs hll hTl hnl hnll hlast hik hmk hnlz hout hoz
   generalize (⟨#[UInt8.ofNat i]⟩:ByteArray)=ob at *
   go_wp2_with fail
   refine (HM.out _).mono ?_
   rintro e w2 ⟨rfl,hb2⟩
   have HB2:=hide ((HBE.out.alloc HBE.out.size _).trans (hb2.mono (by have:=HBE.out.size;simp;omega)))
   clear hb2 HBE HM hcv
   go_wp2
   go_roundw
   case rel=>exact ⟨k+1,i+1,m+32,nl,out++nl,by have:=HMK.out;omega,by rw[HIK.out],by rw[HMK.out];omega,by go_num,rfl,HNL.out,rfl,HON.out,HB2.out⟩
   case measure=>simp[intOf];omega
  ·have hkk:k=K:=by omega
   have jm:¬ (out.size:Int)<(n:Int):=by omega
   have jn:n≤out.size:=by omega
   have HF:=hide (show out.extract 0 n=⟨((O K).take n).toArray⟩ from ba_ext (by rw[ext_take,hout,hkk]))
   have HBE:=hide hbe
   clear hbe hlast hmk hik hkK hKN HTL HOL HT HO HKN HT0 HO0 hoz hout hlt hkk
   go_wp2
   refine bodyPost_ret (results_tmp2 rfl _ _ _) rfl ?_
   rw[←HF.out]
   exact ⟨rfl,HBE.out⟩
set_option maxRecDepth 100000 in
set_option maxHeartbeats 800000 in
theorem kKey_any (ikm salt info:ByteArray) (w:World) (h1:ikm.size<2 ^ 50) (h3:salt.size<2 ^ 50) (hinfo:info.size<2 ^ 50) (hk:KTab w) (hH:HTab w) (h2:2≤w.heap.size):
  Calls Tryz.prog 22 #[.string ikm,.string salt,.string info] w fun e w'=>e = .returned (.string ⟨((expO (macL salt.data.toList ikm.data.toList) info.data.toList 1).take 32).toArray⟩)∧Below w.heap.size w w':=by
 have H1:=hide (extract_any salt ikm w (by omega) (by omega) hk hH h2)
 have hml:=macL_len salt.data.toList ikm.data.toList
 generalize macL salt.data.toList ikm.data.toList=pl at *
 obtain ⟨p,hp⟩:∃ p:ByteArray,p=⟨pl.toArray⟩:=⟨_,rfl⟩
 rw[←hp] at H1
 have hz:p.size=32:=by rw[hp,ba_size,hml]
 have hd:p.data.toList=pl:=by rw[hp]
 have HE:=hide (fun w (a:KTab w) (b:HTab w) (c:2≤w.heap.size)=>expand_any p info 32 w (by decide) (by omega) hinfo a b c)
 rw[hd] at HE
 have HK:=hide hk
 have HH:=hide hH
 clear hk hH hp hd hz hml
 go_enter Tryz.func22,Tryz.ntmps22
 go_wp2_with fail
 refine H1.out.mono ?_
 rintro e w1 ⟨rfl,hb1⟩
 have HB1:=hide hb1
 have HEE:=hide (HE.out w1 (HK.out.below hb1 h2) (HH.out.below hb1 h2) (Nat.le_trans h2 hb1.size))
 clear hb1 HE H1
 go_wp2_with fail
 refine HEE.out.mono ?_
 rintro e w2 ⟨rfl,hb2⟩
 have HB2:=hide (HB1.out.trans (hb2.mono HB1.out.size))
 clear hb2
 go_wp2
 go_ret
 exact ⟨rfl,HB2.out⟩
set_option maxRecDepth 100000 in
set_option maxHeartbeats 800000 in
theorem refKey_any (ikm salt info:ByteArray) (w:World) (h1:ikm.size≤1090000000) (h3:salt.size≤1090000000) (hinfo:info.size≤1080000000):
  Calls Tryz.prog 23 #[.string ikm,.string salt,.string info] w fun e w'=>e = .returned (.string ⟨((expO (macL salt.data.toList ikm.data.toList) info.data.toList 1).take 32).toArray⟩)∧Below w.heap.size w w':=by
 have H1:=hide (fun w=>refHmac_any salt ikm w h3 h1)
 have hml:=macL_len salt.data.toList ikm.data.toList
 generalize macL salt.data.toList ikm.data.toList=pl at *
 obtain ⟨p,hp⟩:∃ p:ByteArray,p=⟨pl.toArray⟩:=⟨_,rfl⟩
 rw[←hp] at H1
 have hz:p.size=32:=by rw[hp,ba_size,hml]
 have hd:p.data.toList=pl:=by rw[hp]
 have HE:=hide (fun w=>refExpand_any p info 32 w (by decide) (by omega) hinfo)
 rw[hd] at HE
 clear hp hd hz hml
 go_enter Tryz.func23,Tryz.ntmps23
 go_wp2_with fail
 refine (H1.out _).mono ?_
 rintro e w1 ⟨rfl,hb1⟩
 have HB1:=hide hb1
 clear hb1 H1
 go_wp2_with fail
 refine (HE.out _).mono ?_
 rintro e w2 ⟨rfl,hb2⟩
 have HB2:=hide (HB1.out.trans (hb2.mono HB1.out.size))
 clear hb2 HE
 go_wp2
 go_ret
 exact ⟨rfl,HB2.out⟩
namespace Ref
theorem nb_len (n:Nat):∀ k,(nb n k).length=k
 | 0=>rfl
 | k+1=>by show (nb n k).length+1=k+1;rw[nb_len n k]
theorem nonce_len (n:Nat) (last:Bool):(nonce n last).length=12:=by unfold nonce;rw[List.length_append,nb_len];rfl
def box (key:List UInt8) (n:Nat) (last:Bool) (text:List UInt8):List UInt8:=if key.length=32 then Box.sealed key (nonce n last) [] text else []
end Ref
theorem nonce_nums (q:Nat):∃ d q2:Nat,d=q%256∧q2=q/256∧d≤255∧(q:Int).tmod 256=(d:Int)∧(q:Int).tdiv 256=(q2:Int)∧IntKind.u8.wrap (d:Int)=(d:Int)∧(d:Int)%256=(d:Int):=
 ⟨q%256,q/256,rfl,rfl,by omega,by rw[Int.tmod_eq_emod_of_nonneg (by omega)];omega,by rw[Int.tdiv_eq_ediv_of_nonneg (by omega)];omega,by show ((q%256:Nat):Int)%256=_;omega,by omega⟩
theorem one_cat (d n k:Nat) (t:ByteArray) (l:UInt8) (hd:d=n/256 ^ k%256) (ht:t.data.toList=Ref.nb n k++[l]):((⟨#[UInt8.ofNat d]⟩:ByteArray)++t).data.toList=Ref.nb n (k+1)++[l]:=by
 rw[cat_list,ht,hd];rfl
set_option maxRecDepth 100000 in
set_option maxHeartbeats 1600000 in
theorem refNonce_any (n:Nat) (last:Bool) (w:World) (hn:n≤1125899906842624):
  Calls Tryz.prog 196 #[.int .i64 (n:Nat),.bool last] w fun e w'=>e = .returned (.string ⟨(Ref.nonce n last).toArray⟩)∧Below w.heap.size w w':=by
 have OC:=hide (one_cat · n)
 have D0:=hide (show n/256 ^ 0=n by simp)
 have SH:=hide (leB_shift n)
 have NL:=hide (Ref.nb_len n)
 have FIN:=hide (fun (t:ByteArray) (h:t.data.toList=Ref.nb n 11++[if last then 1 else 0])=>(show t=⟨(Ref.nonce n last).toArray⟩ from text_ext (by rw[h,two_toList];rfl)))
 obtain ⟨l,hl⟩:∃ l:UInt8,l=if last then 1 else 0:=⟨_,rfl⟩
 rw[←hl] at FIN
 have START:=hide (show (⟨#[l]⟩:ByteArray).data.toList=Ref.nb n 0++[l] from rfl)
 generalize Ref.nb n=xl at *
 generalize Ref.nonce n last=nn at *
 cases last
 all_goals
  simp only[Bool.false_eq_true,if_false,if_true] at hl
  subst hl
  go_enter Tryz.func196,Tryz.ntmps196
  go_wp2
  go_loopw [0,5,6] (fun vn vt vi wr=>∃ (k q:Nat) (t:ByteArray),k≤11∧vi = .int .i64 (k:Nat)∧vn = .int .i64 (q:Nat)∧q=n/256 ^ k∧q≤n∧vt = .string t∧t.data.toList=xl k++[_]∧Below w.heap.size w wr) (fun _ _ i _=>11-(intOf i).toNat)
  case atStart=>exact ⟨0,n,_,by omega,rfl,rfl,D0.out.symm,Nat.le_refl _,rfl,START.out,Below.refl _ _⟩
  case round=>
   obtain ⟨k,q,t,hk,rfl,rfl,hq,hqn,rfl,ht,hbe⟩:=hrel
   by_cases hlt:k<11
   ·obtain ⟨d,q2,hd,hq2,hd255,t1,t2,t3,t4⟩:=nonce_nums q
    have hcv:=fun w=>one_str d hd255 w
    have hq2n:q2≤n:=by omega
    have t5:wrap64 (q2:Int)=(q2:Int):=IntWalk.wrap64_in _ (by omega)
    have htl:t.size=k+1:=by rw[←text_len,ht,List.length_append,NL.out];rfl
    have j1:¬ 9223372036854775807<1+t.size:=by omega
    have j2:(k:Int)<11:=by omega
    have HT:=hide (OC.out d k t _ (by rw[hd,hq]) ht)
    have HQ:=hide (show q2=n/256 ^ (k+1) by rw[hq2,hq,SH.out])
    have HBE:=hide hbe
    have hsz:=hbe.size
    clear hd hq2 hq ht hbe hd255 htl
    go_wp2
    go_roundw
    case rel=>exact ⟨k+1,q2,_,by omega,by go_num,rfl,HQ.out,hq2n,rfl,HT.out,HBE.out.alloc hsz _⟩
    case measure=>simp[intOf];omega
   ·obtain rfl:k=11:=by omega
    have HF:=hide (FIN.out t ht)
    have HBE:=hide hbe
    clear ht hbe hq
    go_wp2
    go_ret
    exact ⟨by rw[←HF.out];rfl,HBE.out⟩
set_option maxHeartbeats 800000 in
theorem refBox_any (key:ByteArray) (n:Nat) (last:Bool) (text:ByteArray) (w:World) (hk:key.size=32) (hn:n≤1125899906842624) (ht:text.size≤1099511627):
  Calls Tryz.prog 150 #[.string key,.int .i64 (n:Nat),.bool last,.string text] w fun e w'=>e = .returned (.string ⟨(Ref.box key.data.toList n last text.data.toList).toArray⟩)∧Below w.heap.size w w':=by
 have HN:=hide (fun w=>refNonce_any n last w hn)
 have hnl:(⟨(Ref.nonce n last).toArray⟩:ByteArray).size=12:=by rw[two_size,Ref.nonce_len]
 have HS:=hide (fun w=>boxSeal_any key ⟨(Ref.nonce n last).toArray⟩ ⟨#[]⟩ text w hk hnl (by decide) ht)
 rw[two_toList] at HS
 have HV:=hide (show Ref.box key.data.toList n last text.data.toList=Box.sealed key.data.toList (Ref.nonce n last) (⟨#[]⟩:ByteArray).data.toList text.data.toList by unfold Ref.box;rw[if_pos (by rw[text_len,hk])])
 rw[HV.out]
 generalize Box.sealed key.data.toList (Ref.nonce n last) (⟨#[]⟩:ByteArray).data.toList text.data.toList=BX at *
 generalize (⟨(Ref.nonce n last).toArray⟩:ByteArray)=nn at *
 clear HV hnl hk hn ht
 go_enter Tryz.func150,Tryz.ntmps150
 go_wp2_with fail
 refine (HN.out _).mono ?_
 rintro e w1 ⟨rfl,be1⟩
 clear HN
 go_wp2_with fail
 refine (HS.out _).mono ?_
 rintro e w2 ⟨rfl,be2⟩
 have BE2:=hide (be1.trans (be2.mono be1.size))
 clear HS be1 be2
 go_wp2
 go_ret
 exact ⟨rfl,BE2.out⟩
theorem wpList_append_intR {ops:Array Oper} {rest:List Oper} {o:Oper} {a:Act} {w:World} {Q:Exit→Act→World→Prop} (hgd:o.guard=none) (s x:Operand)
  (ho:o.op = .call { callee:=.builtin .append,args:=#[s,x],argTypes:=#[24,24] })
  (base:Nat) (v:Value) (n:Nat) (xs:List Value) (hs:a.eval s=v) (hown:Row w base 3 1 v n xs)
  (g:Nat) (y:Int) (hx:a.eval x = .slice (some ⟨g,0,none⟩) 1 1) (hnew:w.cell? ⟨g,0,none⟩=some (.int .i64 y)) (hn:n≤17000000000000) (hbase:base≤w.heap.size)
  (h:∀ v' w',Row w' base 3 1 v' (n+1) (xs++[.int .i64 y])→w.grownBy w' v.ownBlock→wpList Tryz.prog ops Q rest (a.put o.dst v') w'):wpList Tryz.prog ops Q (o::rest) a w:=by
 obtain ⟨i0,hi,hz0,hz1,hz2⟩:=info_parts infoInt
 refine wpList_plain hgd fun _ hK=>?_
 refine wp_append_row s x 24 ho i0 (.int .i64 0) 8 Tryz.underlying24 hi hz0 hz1 hz2 rfl (by decide) v n xs hs hown ⟨g,0,none⟩ 1 1 [.int .i64 y] hx rfl ?_ ?_ ?_ ?_ hbase ?_
 ·intro j u hj
  match j,hj with
  | 0,hj=>simp at hj;subst hj;simpa [Addr.add] using hnew
 ·intro u hu;simp at hu;subst hu;rfl
 ·unfold maxLen;omega
 ·omega
 ·intro v' w' h1 h2 _
  exact hK _ _ (h v' w' h1 h2)
namespace B64
def bitsN (x:Nat):Nat→List Nat
 | 0=>[]
 | k+1=>bitsN x k++[x/(128/2 ^ k)%2]
def bits8 (b:UInt8):List Nat:=bitsN b.toNat 8
def bitsL (l:List UInt8):List Nat:=l.flatMap bits8
theorem bitsN_len (x:Nat):∀ k,(bitsN x k).length=k
 | 0=>rfl
 | k+1=>by rw[bitsN,List.length_append,bitsN_len x k];rfl
theorem bitsL_len:∀ l:List UInt8,(bitsL l).length=8*l.length
 | []=>rfl
 | b::r=>by
  have h:=bitsL_len r
  unfold bitsL at h ⊢
  rw[List.flatMap_cons,List.length_append,h,bits8,bitsN_len,List.length_cons]
  omega
theorem bitsL_next (l:List UInt8) (i:Nat) (h:i<l.length):bitsL (l.take (i+1))=bitsL (l.take i)++bits8 l[i]:=by
 unfold bitsL
 rw[List.take_succ_eq_append_getElem h,List.flatMap_append]
 simp
def dn (k:Nat):Nat:=128/2 ^ k
theorem dn_next (k:Nat):dn k/2=dn (k+1):=by
 unfold dn
 rw[Nat.div_div_eq_div_mul,Nat.pow_succ]
theorem dn_pos (k:Nat) (h:k<8):0<dn k:=
 match k,h with
 | 0,_=>by decide
 | 1,_=>by decide
 | 2,_=>by decide
 | 3,_=>by decide
 | 4,_=>by decide
 | 5,_=>by decide
 | 6,_=>by decide
 | 7,_=>by decide
 | n+8,h=>absurd h (by omega)
theorem dn_le (k:Nat):dn k≤128:=Nat.div_le_self _ _
theorem dn_8:dn 8=0:=by decide
end B64
set_option maxRecDepth 100000 in
set_option maxHeartbeats 1600000 in
theorem headBits_any (s:ByteArray) (w:World) (hs:s.size≤1099511627):
  Calls Tryz.prog 176 #[.string s] w fun e w'=>∃ v,e = .returned v∧Row w' w.heap.size 3 1 v (8*s.size) (i64V (B64.bitsL s.data.toList))∧Below w.heap.size w w':=by
 have hlen:s.data.toList.length=s.size:=ba_len s
 go_enter Tryz.func176,Tryz.ntmps176
 go_wp2
 go_loopw [3,4] (fun v i wr=>∃ j:Nat,j≤s.size∧i = .int .i64 (j:Nat)∧Row wr w.heap.size 3 1 v (8*j) (i64V (B64.bitsL (s.data.toList.take j)))∧Below w.heap.size w wr) (fun _ i _=>s.size-(intOf i).toNat)
 case atStart=>exact ⟨0,Nat.zero_le _,rfl,Row.nil _ _ _ _,Below.refl _ _⟩
 case round=>
  obtain ⟨j,hj,rfl,hr,hbe⟩:=hrel
  by_cases hlt:j<s.size
  ·have jj:(j:Int)<(s.size:Int):=by omega
   have hel:s.data.toList[j]'(by omega)=s[j]'hlt:=by rw[byte_at s j hlt,List.getD_eq_getElem?_getD,List.getElem?_eq_getElem (by omega)];rfl
   have hnx:=B64.bitsL_next s.data.toList j (by omega)
   rw[hel] at hnx
   have HNX:=hide hnx
   have hbl:(B64.bitsL (s.data.toList.take j)).length=8*j:=by rw[B64.bitsL_len,List.length_take];omega
   generalize B64.bitsL (s.data.toList.take j)=pre at *
   clear hel hnx
   go_wp2
   go_loopw [3,5] (fun v d wr=>∃ k:Nat,k≤8∧d = .int .i64 (B64.dn k:Nat)∧Row wr w.heap.size 3 1 v (8*j+k) (i64V (pre++B64.bitsN (s[j]'hlt).toNat k))∧Below w.heap.size w wr) (fun _ d _=>(intOf d).toNat)
   case atStart=>exact ⟨0,by omega,rfl,by simpa [B64.bitsN] using hr,hbe⟩
   case round=>
    clear hr hbe
    obtain ⟨k,hk,rfl,hr,hbe⟩:=hrel
    have hsz:=hbe.size
    by_cases hk8:k<8
    ·obtain ⟨D,hD⟩:∃ D:Nat,D=B64.dn k:=⟨_,rfl⟩
     have hD0:0<D:=by rw[hD];exact B64.dn_pos k hk8
     have hD1:D≤128:=by rw[hD];exact B64.dn_le k
     have hDn:D/2=B64.dn (k+1):=by rw[hD];exact B64.dn_next k
     have hnw:pre++B64.bitsN (s[j]'hlt).toNat k++[(s[j]'hlt).toNat/D%2]=pre++B64.bitsN (s[j]'hlt).toNat (k+1):=by rw[hD,List.append_assoc];rfl
     rw[←hD]
     have jD:(0:Int)<(D:Int):=by omega
     have zD:((D:Int)==0)=false:=beq_eq_false_iff_ne.2 (by omega)
     have hx:=(s[j]'hlt).toNat_lt
     obtain ⟨x,hxe⟩:∃ x:Nat,(s[j]'hlt).toNat=x:=⟨_,rfl⟩
     rw[hxe] at hx hnw hr
     have hx9:x≤255:=by omega
     have hq9:x/D≤255:=Nat.le_trans (Nat.div_le_self _ _) hx9
     have a2':(x:Int).tdiv (D:Int)=((x/D:Nat):Int):=(Int.tdiv_eq_ediv_of_nonneg (Int.natCast_nonneg _)).trans (Int.natCast_ediv x D).symm
     obtain ⟨q,hq⟩:∃ q:Nat,x/D=q:=⟨_,rfl⟩
     rw[hq] at hq9 a2' hnw
     obtain ⟨r,hrr⟩:∃ r:Nat,q%2=r:=⟨_,rfl⟩
     have a4:(q:Int).tmod 2=(r:Int):=by rw[←hrr];exact (Int.tmod_eq_emod_of_nonneg (Int.natCast_nonneg _)).trans (Int.natCast_emod q 2).symm
     rw[hrr] at hnw
     obtain ⟨D2,hD2⟩:∃ D2:Nat,D/2=D2:=⟨_,rfl⟩
     have a5:(D:Int).tdiv 2=(D2:Int):=by rw[←hD2];exact (Int.tdiv_eq_ediv_of_nonneg (Int.natCast_nonneg _)).trans (Int.natCast_ediv D 2).symm
     rw[hD2] at hDn
     have hD2l:D2<D:=by omega
     clear hq hrr hD2
     have a1:wrap64 (x:Int)=(x:Int):=IntWalk.wrap64_in _ (by omega)
     have a3:wrap64 (q:Int)=(q:Int):=IntWalk.wrap64_in _ (by omega)
     have a6:wrap64 (D2:Int)=(D2:Int):=IntWalk.wrap64_in _ (by omega)
     have HR:=hide hr
     have HBE:=hide hbe
     have HDN:=hide hDn
     have HNW:=hide hnw
     have HDL:=hide hD2l
     clear hr hbe hD hDn hnw hx hx9 hq9 hD2l
     go_wp2_with (at_builtin;refine wpList_append_intR rfl (.tmp 16) (.tmp 24) rfl w.heap.size _ (8*j+k) _ rfl (HR.out.alloc _) wr.heap.size _ rfl (World.cell?_alloc_at _ _ _ _ rfl) ?_ ?_ ?_;omega;(simp;omega);intro v1 w1 hr1 hg1)
     go_roundw
     case rel=>
      refine ⟨k+1,by omega,by rw[a6,HDN.out],?_,Below.grown (HBE.out.alloc hsz _) hg1 (by simp;omega) (fun k hk=>(HR.out.lt k hk).1)⟩
      rw[hxe,←HNW.out,i64V_append]
      exact hr1
     case measure=>
      have:=HDL.out
      rw[a6]
      simp[intOf]
      omega
    ·have hk8':k=8:=by omega
     subst hk8'
     rw[B64.dn_8]
     have HR:=hide hr
     have HBE:=hide hbe
     clear hr hbe hk hk8
     go_wp2
     go_roundw
     case rel=>
      refine ⟨j+1,by omega,by go_num,?_,HBE.out⟩
      rw[HNX.out]
      exact HR.out
     case measure=>simp[intOf];omega
  ·have hjs:j=s.size:=by omega
   subst hjs
   rw[List.take_of_length_le (by omega)] at hr
   have HR:=hide hr
   have HBE:=hide hbe
   clear hr hbe
   go_wp2
   go_ret
   exact ⟨_,rfl,HR.out,HBE.out⟩
namespace B64
def letters:List UInt8:=[65,66,67,68,69,70,71,72,73,74,75,76,77,78,79,80,81,82,83,84,85,86,87,88,89,90,97,98,99,100,101,102,103,104,105,106,107,108,109,110,111,112,113,114,115,116,117,118,119,120,121,122,48,49,50,51,52,53,54,55,56,57,43,47]
def letter (v:Nat):UInt8:=letters.getD v 0
def gap (m:Nat):Nat:=(6-m%6)%6
def bits6 (l:List UInt8):List Nat:=bitsL l++List.replicate (gap (8*l.length)) 0
def val (P:List Nat) (i:Nat):Nat→Nat
 | 0=>0
 | k+1=>2*val P i k+P.getD (i+k) 0
def encN (P:List Nat) (k:Nat):List UInt8:=(List.range k).map fun j=>letter (val P (6*j) 6)
def enc (l:List UInt8):List UInt8:=encN (bits6 l) ((bits6 l).length/6)
theorem encN_succ (P:List Nat) (k:Nat):encN P (k+1)=encN P k++[letter (val P (6*k) 6)]:=by simp[encN,List.range_succ]
theorem gap_more (m j:Nat) (h:j<gap m):(m+j)%6≠0:=by unfold gap at h;omega
theorem gap_end (m:Nat):(m+gap m)%6=0:=by unfold gap;omega
theorem gap_lt (m:Nat):gap m<6:=by unfold gap;omega
theorem bitsN_bit (x:Nat):∀ (k:Nat),∀ b ∈ bitsN x k,b<2
 | 0,b,h=>by cases h
 | k+1,b,h=>by
  rw[bitsN] at h
  rcases List.mem_append.1 h with h | h
  ·exact bitsN_bit x k b h
  ·rw[List.mem_singleton.1 h];exact Nat.mod_lt _ (by decide)
theorem bits6_bit (l:List UInt8):∀ b ∈ bits6 l,b<2:=by
 intro b h
 rcases List.mem_append.1 h with h | h
 ·obtain ⟨x,_,hx⟩:=List.mem_flatMap.1 h
  exact bitsN_bit _ _ b hx
 ·rw[(List.mem_replicate.1 h).2];decide
theorem bits6_len (l:List UInt8):(bits6 l).length=8*l.length+gap (8*l.length):=by
 unfold bits6
 rw[List.length_append,bitsL_len,List.length_replicate]
theorem getD_bit {P:List Nat} (h:∀ b ∈ P,b<2) (i:Nat):P.getD i 0<2:=by
 rw[List.getD_eq_getElem?_getD]
 cases hi:P[i]? with
 | none=>decide
 | some b=>exact h b (List.mem_of_getElem? hi)
theorem val_lt {P:List Nat} (h:∀ b ∈ P,b<2) (i:Nat):∀ k,val P i k<2 ^ k
 | 0=>by rw[val];decide
 | k+1=>by
  have h1:=val_lt h i k
  have h2:=getD_bit h (i+k)
  rw[val,Nat.pow_succ]
  omega
end B64
theorem letter_text (v:Nat) (h:v<64):(⟨#[65,66,67,68,69,70,71,72,73,74,75,76,77,78,79,80,81,82,83,84,85,86,87,88,89,90,97,98,99,100,101,102,103,104,105,106,107,108,109,110,111,112,113,114,115,116,117,118,119,120,121,122,48,49,50,51,52,53,54,55,56,57,43,47]⟩:ByteArray).extract v (v+1)=⟨#[B64.letter v]⟩:=by
 have hall:∀ v:Fin 64,(⟨#[65,66,67,68,69,70,71,72,73,74,75,76,77,78,79,80,81,82,83,84,85,86,87,88,89,90,97,98,99,100,101,102,103,104,105,106,107,108,109,110,111,112,113,114,115,116,117,118,119,120,121,122,48,49,50,51,52,53,54,55,56,57,43,47]⟩:ByteArray).extract v.val (v.val+1)=⟨#[B64.letter v.val]⟩:=by decide +kernel
 exact hall ⟨v,h⟩
theorem Row.anyN {w:World} {base:Nat} {e:TypeId} {size:Nat} {v:Value} {n:Nat} {xs:List Value} (hr:Row w base e size v n xs):∃ ao cap,v = .slice ao n cap∧n≤cap∧cap≤maxLen:=by
 rcases hr.2 with ⟨rfl,h0⟩ | ⟨g,cap,cur,rfl,_,_,hc,hm,_⟩
 ·exact ⟨none,0,by rw[h0],by omega,by decide⟩
 ·exact ⟨_,_,rfl,hc,hm⟩
set_option maxRecDepth 100000 in
set_option maxHeartbeats 1600000 in
theorem headEncode_any (s:ByteArray) (w:World) (hs:s.size≤1099511627):
  Calls Tryz.prog 120 #[.string s] w fun e w'=>e = .returned (.string ⟨(B64.enc s.data.toList).toArray⟩)∧Below w.heap.size w w':=by
 have hlen:s.data.toList.length=s.size:=ba_len s
 have HB:=hide (fun w=>headBits_any s w hs)
 have hg6:=B64.gap_lt (8*s.size)
 have hpl:=B64.bits6_len s.data.toList
 rw[hlen] at hpl
 have hpe:B64.bitsL s.data.toList++List.replicate (B64.gap (8*s.size)) 0=B64.bits6 s.data.toList:=by unfold B64.bits6;rw[hlen]
 have hge:=B64.gap_end (8*s.size)
 have hgm:=B64.gap_more (8*s.size)
 have hbit:=B64.bits6_bit s.data.toList
 unfold B64.enc
 generalize B64.bits6 s.data.toList=P at *
 generalize B64.gap (8*s.size)=G at *
 generalize B64.bitsL s.data.toList=P0 at *
 obtain ⟨N,hN⟩:∃ N:Nat,P.length/6=N:=⟨_,rfl⟩
 rw[hN]
 obtain ⟨L,hL⟩:∃ L:Nat,P.length=L:=⟨_,rfl⟩
 rw[hL] at hpl hN
 have hLN:L=6*N:=by omega
 have hLb:L≤17000000000:=by omega
 have HLN:=hide hLN
 have HPL:=hide hpl
 have HL:=hide hL
 clear hN hLN hpl hL
 go_enter Tryz.func120,Tryz.ntmps120
 go_wp2_with fail
 refine (HB.out _).mono ?_
 rintro e w1 ⟨v0,rfl,hr1,hb1⟩
 clear HB
 have HGM:=hide hgm
 have HPE:=hide hpe
 have HBT:=hide hbit
 clear hgm hpe hbit
 go_wp2
 go_loopw [3] (fun v wr=>∃ j:Nat,j≤G∧Row wr w.heap.size 3 1 v (8*s.size+j) (i64V (P0++List.replicate j 0))∧Below w.heap.size w wr) (fun v _=>8*s.size+7-vlen v)
 case atStart=>exact ⟨0,Nat.zero_le _,by simpa using hr1,hb1⟩
 case round=>
  clear hr1 hb1
  obtain ⟨j,hj,hr,hbe⟩:=hrel
  have hsz:=hbe.size
  by_cases hlt:j<G
  ·have hne:=HGM.out j hlt
   obtain ⟨ao,cap,rfl,hc1,hc2⟩:=Row.anyN hr
   unfold maxLen at hc2
   obtain ⟨X,hX⟩:∃ X:Nat,8*s.size+j=X:=⟨_,rfl⟩
   rw[hX] at hne hr hc1
   rw[hX]
   obtain ⟨Y,hY⟩:∃ Y:Nat,X%6=Y:=⟨_,rfl⟩
   have t1:(X:Int).tmod 6=(Y:Int):=by rw[←hY];exact (Int.tmod_eq_emod_of_nonneg (Int.natCast_nonneg _)).trans (Int.natCast_emod X 6).symm
   rw[hY] at hne
   have t2:((Y:Int) != 0)=true:=by rw[bne_iff_ne];omega
   have hXb:X≤17000000000:=by have:=HPL.out;omega
   have HX:=hide hX
   have HR:=hide hr
   have HBE:=hide hbe
   clear hr hbe hX hY hne hlen
   go_wp2_with (at_builtin;refine wpList_append_intR rfl (.tmp 14) (.tmp 15) rfl w.heap.size _ X _ rfl (HR.out.alloc _) wr.heap.size _ rfl (World.cell?_alloc_at _ _ _ _ rfl) ?_ ?_ ?_;omega;(simp;omega);intro v1 w2 hr1 hg1)
   go_roundw
   case rel=>
    refine ⟨j+1,by omega,?_,Below.grown (HBE.out.alloc hsz _) hg1 (by simp;omega) (fun k hk=>(HR.out.lt k hk).1)⟩
    have hx:=HX.out
    rw[show 8*s.size+(j+1)=X+1 by omega,List.replicate_succ',←List.append_assoc,i64V_append]
    exact hr1
   case measure=>rw[Row.vlen hr1];have:=HX.out;simp[vlen];omega
  ·have hjG:j=G:=by omega
   subst hjG
   rw[HPE.out] at hr
   rw[←HPL.out] at hr hge
   clear hlen hg6 hj hlt
   have HBE:=hide hbe
   clear hbe
   obtain ⟨ao,cap,rfl,hc1,hc2⟩:=Row.anyN hr
   unfold maxLen at hc2
   have t1:(L:Int).tmod 6=0:=by
    have h:=(Int.tmod_eq_emod_of_nonneg (b:=6) (Int.natCast_nonneg L)).trans (Int.natCast_emod L 6).symm
    rw[hge] at h
    exact h
   have hcell:∀ i,i<L→∃ g,ao=some ⟨g,0,none⟩∧wr.cell? ⟨g,i,none⟩=some (.int .i64 (P.getD i 0:Nat)):=by
    intro i hi
    have hiP:i<P.length:=by rw[HL.out];exact hi
    obtain ⟨g,cap',cur,hv,_,hB,_,_,hcl,htk⟩:=hr.open (by omega)
    injection hv with hv1 hv2 hv3
    refine ⟨g,hv1,hB.cell (take_at htk ?_)⟩
    unfold i64V
    rw[List.getElem?_map,List.getElem?_eq_getElem hiP,List.getD_eq_getElem?_getD,List.getElem?_eq_getElem hiP]
    rfl
   have HC:=hide hcell
   clear hr hcell hge HGM HPE HPL
   go_wp2
   go_loopw [4,5] (fun t i w2=>∃ q m:Nat,q≤N∧t = .string ⟨(B64.encN P q).toArray⟩∧i = .int .i64 (6*q:Nat)∧w2=wr.drewN m) (fun _ i _=>L-(intOf i).toNat)
   case atStart=>exact ⟨0,0,Nat.zero_le _,rfl,rfl,rfl⟩
   case round=>
    obtain ⟨q,m,hq,rfl,rfl,rfl⟩:=hrel
    by_cases hlt:q<N
    ·obtain ⟨I,hI⟩:∃ I:Nat,6*q=I:=⟨_,rfl⟩
     have jI:(I:Int)<(L:Int):=by have:=HLN.out;omega
     have HI:=hide hI
     rw[hI]
     have hIL:I+6≤L:=by have:=HLN.out;omega
     have HLT:=hide hlt
     clear hI hlt
     go_wp2
     go_loopw [6,7] (fun v k w3=>∃ k' m':Nat,k'≤6∧v = .int .i64 (B64.val P I k':Nat)∧k = .int .i64 (k':Nat)∧w3=wr.drewN m') (fun _ k _=>6-(intOf k).toNat)
     case atStart=>exact ⟨0,m,by omega,rfl,rfl,rfl⟩
     case round=>
      obtain ⟨k,m2,hk,rfl,rfl,rfl⟩:=hrel
      have hV:=B64.val_lt HBT.out I k
      have hV6:2 ^ k≤64:=Nat.pow_le_pow_right (by decide) hk
      by_cases hk6:k<6
      ·obtain ⟨IK,hIK⟩:∃ IK:Nat,I+k=IK:=⟨_,rfl⟩
       obtain ⟨g,rfl,c0⟩:=HC.out IK (by omega)
       have hb2:=B64.getD_bit HBT.out IK
       have hvn:2*B64.val P I k+P.getD IK 0=B64.val P I (k+1):=by rw[B64.val,hIK]
       have c1:(wr.drewN m2).cell? ⟨g,IK,none⟩=some (.int .i64 (P.getD IK 0:Nat)):=c0
       have q1:IntKind.i64.wrap ((I:Int)+(k:Int))=(IK:Int):=(IntWalk.i64_in _ (by omega)).trans (by omega)
       have jIK:(IK:Int)<(L:Int):=by omega
       have nIK:IK<L:=by omega
       generalize P.getD IK 0=bt at *
       obtain ⟨V,hVe⟩:∃ V:Nat,B64.val P I k=V:=⟨_,rfl⟩
       rw[hVe] at hV hvn
       rw[hVe]
       obtain ⟨V2,hV2⟩:∃ V2:Nat,2*V+bt=V2:=⟨_,rfl⟩
       rw[hV2] at hvn
       have q2:IntKind.i64.wrap (2*(V:Int))=((2*V:Nat):Int):=(IntWalk.i64_in _ (by omega)).trans (by omega)
       obtain ⟨VV,hVV⟩:∃ VV:Nat,2*V=VV:=⟨_,rfl⟩
       rw[hVV] at q2
       have q3:IntKind.i64.wrap ((VV:Int)+(bt:Int))=(V2:Int):=(IntWalk.i64_in _ (by omega)).trans (by omega)
       have jk:(k:Int)<6:=by omega
       have HVN:=hide hvn
       clear hV hV6 hvn hVe hV2 hVV c0 hb2 hIK
       go_wp2
       go_roundw
       case rel=>exact ⟨k+1,m2,by omega,by rw[HVN.out],by go_num,rfl⟩
       case measure=>simp[intOf];omega
      ·have hk6':k=6:=by omega
       subst hk6'
       obtain ⟨V,hVe⟩:∃ V:Nat,B64.val P I 6=V:=⟨_,rfl⟩
       rw[hVe] at hV
       rw[hVe]
       have hlt:=letter_text V (by omega)
       have hnx:=B64.encN_succ P q
       rw[HI.out,hVe] at hnx
       have hcc:(⟨(B64.encN P q).toArray⟩:ByteArray)++⟨#[B64.letter V]⟩=⟨(B64.encN P (q+1)).toArray⟩:=by
        apply ba_ext
        rw[ba_list,hnx]
       have hsz1:(⟨(B64.encN P q).toArray⟩:ByteArray).size=q:=by rw[ba_size];simp[B64.encN]
       have hsz2:(⟨#[B64.letter V]⟩:ByteArray).size=1:=rfl
       have hqb:q≤17000000000:=by have:=HLN.out;have:=HLT.out;omega
       have hcat:¬ (2 ^ 63-1<(⟨(B64.encN P q).toArray⟩:ByteArray).size+(⟨#[B64.letter V]⟩:ByteArray).size):=by rw[hsz1,hsz2];omega
       generalize (⟨(B64.encN P q).toArray⟩:ByteArray)=tq at *
       generalize htq1:(⟨(B64.encN P (q+1)).toArray⟩:ByteArray)=tq1 at *
       have HTQ:=hide htq1
       clear htq1
       generalize (⟨#[B64.letter V]⟩:ByteArray)=lv at *
       have hcat2:¬ (9223372036854775807<tq.size+lv.size):=by simpa using hcat
       have jV:(V:Int)<64:=by omega
       have jV1:(V:Int)+1≤64:=by omega
       have nV:V<64:=by omega
       have nV1:V+1≤64:=by omega
       clear hV hV6 hVe hnx hsz1 hsz2 hk hk6
       go_wp2
       go_roundw
       case rel=>
        have h1:=HLT.out
        have h2:=HI.out
        exact ⟨q+1,m2,by omega,by rw[HTQ.out],congrArg (Value.int .i64) (by omega),rfl⟩
       case measure=>simp[intOf];omega
    ·have hqN:q=N:=by omega
     subst hqN
     rw[←HLN.out]
     have jL:¬ ((L:Int)<(L:Int)):=by omega
     clear hlt hq
     go_wp2
     go_ret
     exact ⟨rfl,below_drewN HBE.out m⟩
namespace B64
end B64
theorem letter_at (i:Nat) (h:i<(⟨#[65,66,67,68,69,70,71,72,73,74,75,76,77,78,79,80,81,82,83,84,85,86,87,88,89,90,97,98,99,100,101,102,103,104,105,106,107,108,109,110,111,112,113,114,115,116,117,118,119,120,121,122,48,49,50,51,52,53,54,55,56,57,43,47]⟩:ByteArray).size):((⟨#[65,66,67,68,69,70,71,72,73,74,75,76,77,78,79,80,81,82,83,84,85,86,87,88,89,90,97,98,99,100,101,102,103,104,105,106,107,108,109,110,111,112,113,114,115,116,117,118,119,120,121,122,48,49,50,51,52,53,54,55,56,57,43,47]⟩:ByteArray)[i]'h)=B64.letter i:=by
 rw[byte_at]
 rfl
namespace B64
theorem enc_len (l:List UInt8):(enc l).length≤2*l.length+1:=by
 unfold enc encN
 rw[List.length_map,List.length_range,bits6_len]
 have:=gap_lt (8*l.length)
 omega
end B64
namespace Hd
def line1:List UInt8:=[116,105,110,121,45,98,111,120,47,49,10]
def wrapB:List UInt8:=[45,62,32,119,114,97,112,32]
def mark:List UInt8:=[45,45,45]
def at_ (l:List ByteArray) (i:Nat):List UInt8:=(l.getD i ⟨#[]⟩).data.toList
def entry (s b:List UInt8):List UInt8:=wrapB++B64.enc s++[32]++B64.enc b++[10]
def bodyP (ss bs:List ByteArray):Nat→List UInt8
 | 0=>line1
 | k+1=>bodyP ss bs k++entry (at_ ss k) (at_ bs k)
def body (ss bs:List ByteArray):List UInt8:=bodyP ss bs ss.length++mark
theorem bodyP_len (ss bs:List ByteArray) (h1:∀ x ∈ ss,x.size≤1000) (h2:∀ x ∈ bs,x.size≤1000):∀ k,(bodyP ss bs k).length≤11+5000*k
 | 0=>by show line1.length≤_;decide
 | k+1=>by
  have h:=bodyP_len ss bs h1 h2 k
  have hat:∀ (l:List ByteArray),(∀ x ∈ l,x.size≤1000)→∀ i,(at_ l i).length≤1000:=by
   intro l hl i
   unfold at_
   rw[ba_len,List.getD_eq_getElem?_getD]
   cases hi:l[i]? with
   | none=>decide
   | some b=>exact hl b (List.mem_of_getElem? hi)
  have e1:=B64.enc_len (at_ ss k)
  have e2:=B64.enc_len (at_ bs k)
  have a1:=hat ss h1 k
  have a2:=hat bs h2 k
  rw[bodyP,List.length_append]
  unfold entry wrapB
  simp only[List.length_append,List.length_cons,List.length_nil]
  omega
end Hd
theorem Strs.at {w:World} {v:Value} {l:List ByteArray} (h:Strs w v l) (i:Nat) (hi:i<l.length):∃ g o c,v = .slice (some ⟨g,o,none⟩) l.length c∧g<w.heap.size∧w.cell? ⟨g,o+i,none⟩=some (.string (l.getD i ⟨#[]⟩)):=by
 rcases h with ⟨rfl,_⟩ | ⟨g,o,c,rfl,hc⟩
 ·exact absurd hi (by simp)
 ·have h1:=hc i l[i] (List.getElem?_eq_getElem hi)
  refine ⟨g,o,c,rfl,World.block_lt_of_cell? w _ h1,?_⟩
  rw[h1,List.getD_eq_getElem?_getD,List.getElem?_eq_getElem hi]
  rfl
theorem Strs.len {w:World} {v:Value} {l:List ByteArray} (h:Strs w v l):∃ ao c,v = .slice ao l.length c:=by
 rcases h with ⟨rfl,ao,c,rfl⟩ | ⟨g,o,c,rfl,_⟩
 ·exact ⟨_,_,rfl⟩
 ·exact ⟨_,_,rfl⟩
set_option maxRecDepth 100000 in
set_option maxHeartbeats 3200000 in
theorem headBody_any (B:Nat) (vs vb:Value) (mac:ByteArray) (ss bs:List ByteArray) (w:World) (hB:Blk w B 155 [vs,vb,.string mac]) (h1:Strs w vs ss) (h2:Strs w vb bs) (hl:bs.length=ss.length) (hn:ss.length≤1000) (hz1:∀ x ∈ ss,x.size≤1000) (hz2:∀ x ∈ bs,x.size≤1000):
  Calls Tryz.prog 184 #[.pointer (some ⟨B,0,none⟩)] w fun e w'=>e = .returned (.string ⟨(Hd.body ss bs).toArray⟩)∧Below w.heap.size w w':=by
 have c0:=hB.cell (i:=0) rfl
 have c1:=hB.cell (i:=1) rfl
 have hBl:=hB.lt
 obtain ⟨ao,cp,rfl⟩:=h1.len
 obtain ⟨bo,dp,rfl⟩:=h2.len
 rw[hl] at c1
 have HS1:=hide h1
 have HS2:=hide h2
 have hbl:=Hd.bodyP_len ss bs hz1 hz2
 have HBL:=hide hbl
 have HZ1:=hide hz1
 have HZ2:=hide hz2
 unfold Hd.body
 obtain ⟨n,hn0⟩:∃ n:Nat,ss.length=n:=⟨_,rfl⟩
 have HHL:=hide hl
 rw[hn0] at c0 c1 hn
 rw[hn0]
 have HN:=hide hn0
 have HC0:=hide c0
 have HC1:=hide c1
 clear hB h1 h2 hbl hz1 hz2 hl hn0 c0 c1
 go_enter Tryz.func184,Tryz.ntmps184
 go_wp2
 go_loopw [3,4] (fun t i wr=>∃ k:Nat,k≤n∧t = .string ⟨(Hd.bodyP ss bs k).toArray⟩∧i = .int .i64 (k:Nat)∧Below w.heap.size w wr) (fun _ i _=>n-(intOf i).toNat)
 case atStart=>exact ⟨0,Nat.zero_le _,rfl,rfl,Below.refl _ _⟩
 case round=>
  obtain ⟨k,hk,rfl,rfl,hbe⟩:=hrel
  have d0:wr.cell? ⟨B,0,none⟩=some (.slice ao n cp):=(hbe.cell hBl).trans HC0.out
  have d1:wr.cell? ⟨B,1,none⟩=some (.slice bo n dp):=(hbe.cell hBl).trans HC1.out
  have htl:=HBL.out k
  rw[←ba_size] at htl
  by_cases hlt:k<n
  ·obtain ⟨g,o,c,hv1,hgl,e1⟩:=HS1.out.at k (by rw[HN.out];exact hlt)
   injection hv1 with hv1 _ _
   subst hv1
   obtain ⟨g2,o2,cc2,hv2,hgl2,e2⟩:=HS2.out.at k (by rw[HHL.out,HN.out];exact hlt)
   injection hv2 with hv2 _ _
   subst hv2
   have f1:=(hbe.cell hgl).trans e1
   have f2:=(hbe.cell hgl2).trans e2
   have z1:(ss.getD k ⟨#[]⟩).size≤1000:=by
    rw[List.getD_eq_getElem?_getD,List.getElem?_eq_getElem (by rw[HN.out];exact hlt)]
    exact HZ1.out _ (List.getElem_mem _)
   have z2:(bs.getD k ⟨#[]⟩).size≤1000:=by
    rw[List.getD_eq_getElem?_getD,List.getElem?_eq_getElem (by rw[HHL.out,HN.out];exact hlt)]
    exact HZ2.out _ (List.getElem_mem _)
   have hnx:Hd.bodyP ss bs (k+1)=Hd.bodyP ss bs k++(Hd.wrapB++B64.enc (ss.getD k ⟨#[]⟩).data.toList++[32]++B64.enc (bs.getD k ⟨#[]⟩).data.toList++[10]):=rfl
   generalize ss.getD k ⟨#[]⟩=sk at *
   generalize bs.getD k ⟨#[]⟩=bk at *
   have HE1:=hide (fun w=>headEncode_any sk w (by omega))
   have HE2:=hide (fun w=>headEncode_any bk w (by omega))
   have l1:=B64.enc_len sk.data.toList
   have l2:=B64.enc_len bk.data.toList
   rw[ba_len] at l1 l2
   have hcc:(⟨(Hd.bodyP ss bs k).toArray⟩:ByteArray)++⟨#[45,62,32,119,114,97,112,32]⟩++⟨(B64.enc sk.data.toList).toArray⟩++⟨#[32]⟩++⟨(B64.enc bk.data.toList).toArray⟩++⟨#[10]⟩=⟨(Hd.bodyP ss bs (k+1)).toArray⟩:=by
    apply ba_ext
    rw[hnx]
    simp only[ba_list]
    unfold Hd.wrapB
    simp only[List.append_assoc]
   rw[←ba_size] at l1 l2
   generalize (⟨(B64.enc sk.data.toList).toArray⟩:ByteArray)=ea at *
   generalize (⟨(B64.enc bk.data.toList).toArray⟩:ByteArray)=eb at *
   generalize (⟨(Hd.bodyP ss bs k).toArray⟩:ByteArray)=tk at *
   have HCC:=hide hcc
   have hsz:=hbe.size
   have HBE:=hide hbe
   have jk:(k:Int)<(n:Int):=by omega
   have HLT:=hide hlt
   have u1:¬ (9223372036854775807<tk.size+8):=by omega
   have u2:¬ (9223372036854775807<tk.size+8+ea.size):=by omega
   have u3:¬ (9223372036854775807<tk.size+8+ea.size+1):=by omega
   have u4:¬ (9223372036854775807<tk.size+8+ea.size+1+eb.size):=by omega
   have u5:¬ (9223372036854775807<tk.size+8+ea.size+1+eb.size+1):=by omega
   clear hbe e1 e2 hnx z1 z2 l1 l2 hcc hlt htl
   go_wp2_with fail
   refine (HE1.out _).mono ?_
   rintro e w2 ⟨rfl,hb2⟩
   have B2:=hide (HBE.out.trans (hb2.mono hsz))
   have g0:w2.cell? ⟨B,0,none⟩=some (.slice (some ⟨g,o,none⟩) n cp):=(hb2.cell (Nat.lt_of_lt_of_le hBl hsz)).trans d0
   have g1:w2.cell? ⟨B,1,none⟩=some (.slice (some ⟨g2,o2,none⟩) n dp):=(hb2.cell (Nat.lt_of_lt_of_le hBl hsz)).trans d1
   have g2c:=(hb2.cell (Nat.lt_of_lt_of_le hgl2 hsz)).trans f2
   clear hb2 HE1 d0 d1 f1 f2 HBE
   go_wp2_with fail
   refine (HE2.out _).mono ?_
   rintro e w3 ⟨rfl,hb3⟩
   have B3:=hide (B2.out.trans (hb3.mono B2.out.size))
   clear hb3 HE2 g0 g1 g2c B2
   go_wp2
   go_roundw
   case rel=>
    have:=HLT.out
    exact ⟨k+1,by omega,by rw[HCC.out],by go_num,B3.out⟩
   case measure=>have:=HLT.out;simp[intOf];omega
  ·have hkn:k=n:=by omega
   subst hkn
   have hcc:(⟨(Hd.bodyP ss bs k).toArray⟩:ByteArray)++⟨#[45,45,45]⟩=⟨(Hd.bodyP ss bs k++Hd.mark).toArray⟩:=by
    apply ba_ext
    rw[ba_list]
    rfl
   have HCC:=hide hcc
   generalize (⟨(Hd.bodyP ss bs k).toArray⟩:ByteArray)=tk at *
   have u1:¬ (9223372036854775807<tk.size+3):=by omega
   have HBE:=hide hbe
   clear hcc hbe hlt hk htl
   go_wp2
   go_ret
   exact ⟨by rw[←HCC.out];rfl,HBE.out⟩
end Go.Proofs.YtmjekklgefdolaaGreatDoor
