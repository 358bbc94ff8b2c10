import Derived.Test.YtoifalcpfnacnaaGreatDoorBe4
namespace Go.Proofs.YtoifalcpfnacnaaGreatDoor
open Go.RowKit
theorem info64b:(Tryz.prog.info? 163).map (·.size)=some 64:=by kernel_rfl
def zeros8 (n:Nat):List UInt8:=List.replicate n 0
theorem LZ64:(u8V (zeros8 64)).length=64:=by simp[u8V,zeros8]
theorem LZ16:(u32V (zeros32 16)).length=16:=(u32V_len _).trans (zeros32_len 16)
theorem u8V_put (l:List UInt8) (i:Nat) (x:UInt8):(u8V l).set i (.int .u8 ((x.toNat:Nat):Int))=u8V (l.set i x):=by
 unfold u8V
 rw[List.map_set]
theorem u8V_at2 (l:List UInt8) (i:Nat) (h:i<l.length):(u8V l)[i]? = some (.int .u8 (((l.getD i 0).toNat:Nat):Int)):=by
 simp[u8V,List.getD,h]
theorem set4 (A:List UInt8) (m:Nat) (b0 b1 b2 b3:UInt8):((((A++zeros8 (m+4)).set A.length b0).set (A.length+1) b1).set (A.length+2) b2).set (A.length+3) b3=(A++[b0,b1,b2,b3])++zeros8 m:=by
 unfold zeros8
 simp[List.set_append_right,List.replicate_succ]
theorem le4 (v:Nat):Cha.leB v 4=[UInt8.ofNat v,UInt8.ofNat (v/256),UInt8.ofNat (v/65536),UInt8.ofNat (v/16777216)]:=by
 simp[Cha.leB,List.range_succ]
theorem outs_step (X S:List Nat) (k:Nat) (hk:k<16) (v:Nat) (hv:v=Cha.sumW X S k) (p0 p1 p2 p3:Nat) (h0:p0=4*k) (h1:p1=4*k+1) (h2:p2=4*k+2) (h3:p3=4*k+3):
  ((((Cha.outs X S k++zeros8 (64-4*k)).set p0 (UInt8.ofNat v)).set p1 (UInt8.ofNat (v/256))).set p2 (UInt8.ofNat (v/65536))).set p3 (UInt8.ofNat (v/16777216))=Cha.outs X S (k+1)++zeros8 (64-4*(k+1)):=by
 subst h0 h1 h2 h3
 have h:=set4 (Cha.outs X S k) (64-4*(k+1)) (UInt8.ofNat v) (UInt8.ofNat (v/256)) (UInt8.ofNat (v/65536)) (UInt8.ofNat (v/16777216))
 rw[Cha.outs_len,show 64-4*(k+1)+4=64-4*k by omega] at h
 rw[h,Cha.outs_succ,←hv,le4]
theorem rounds_next (S:List Nat) (k:Nat):Cha.rounds S (k+1)=Cha.diags (Cha.cols (Cha.rounds S k) 4) 4:=rfl
theorem byte_of (v:Nat):(v:Int)%256=(((UInt8.ofNat v).toNat:Nat):Int):=by rw[UInt8.toNat_ofNat'];omega
theorem divc (v d:Nat):(v:Int)/(d:Int)=((v/d:Nat):Int):=by rw[Int.natCast_ediv]
theorem four_bytes (v:Nat) (hv:v<4294967296):∃ b0 b1 b2 b3:UInt8,(v:Int)%256=((b0.toNat:Nat):Int)∧(v:Int)/256%256=((b1.toNat:Nat):Int)∧(v:Int)/65536%256=((b2.toNat:Nat):Int)∧(v:Int)/16777216%256=((b3.toNat:Nat):Int)∧(v:Int)/16777216=((b3.toNat:Nat):Int)∧b0=UInt8.ofNat v∧b1=UInt8.ofNat (v/256)∧b2=UInt8.ofNat (v/65536)∧b3=UInt8.ofNat (v/16777216):=
 ⟨_,_,_,_,byte_of v,(congrArg (· % 256) (divc v 256)).trans (byte_of _),(congrArg (· % 256) (divc v 65536)).trans (byte_of _),(congrArg (· % 256) (divc v 16777216)).trans (byte_of _),by rw[UInt8.toNat_ofNat'];omega,rfl,rfl,rfl,rfl⟩
theorem four_places (k:Nat) (hk:k<16):∃ p0 p1 p2 p3:Nat,p0=4*k∧p1=4*k+1∧p2=4*k+2∧p3=4*k+3∧IntKind.i64.wrap (4*(k:Int))=(p0:Int)∧IntKind.i64.wrap ((p0:Int)+1)=(p1:Int)∧IntKind.i64.wrap ((p0:Int)+2)=(p2:Int)∧IntKind.i64.wrap ((p0:Int)+3)=(p3:Int) ∧
  wrap64 (4*(k:Int))=(p0:Int)∧wrap64 ((p0:Int)+1)=(p1:Int)∧wrap64 ((p0:Int)+2)=(p2:Int)∧wrap64 ((p0:Int)+3)=(p3:Int)∧(p0:Int)<64∧(p1:Int)<64∧(p2:Int)<64∧(p3:Int)<64:=by
 refine ⟨4*k,4*k+1,4*k+2,4*k+3,rfl,rfl,rfl,rfl,?_,?_,?_,?_,?_,?_,?_,?_,by omega,by omega,by omega,by omega⟩
 iterate 4 exact (IntWalk.i64_in _ (by omega)).trans (by omega)
 iterate 4 exact (IntWalk.wrap64_in _ (by omega)).trans (by omega)
set_option maxRecDepth 100000 in
set_option maxHeartbeats 1600000 in
theorem makeBlock_any (l:List Nat) (n:Nat) (w:World) (hl:Cha.Ok l) (hn:n<4294967296):
  Calls Tryz.prog 110 #[.agg (u32V l).toArray,.int .u32 (n:Nat)] w fun e w'=>e = .returned (.agg (u8V (Cha.outs (Cha.rounds (l.set 12 n) 10) (l.set 12 n) 16)).toArray)∧Below w.heap.size w w':=by
 have hS:=hl.set 12 n hn
 have hG:=u32V_get l 12 (by rw[hl.1];decide)
 obtain ⟨S,hSd⟩:∃ S,S=l.set 12 n:=⟨_,rfl⟩
 rw[←hSd] at hS ⊢
 have HSD:=hide hSd
 have HS:=hide hS
 have LS:=hide ((u32V_len S).trans hS.1)
 have RO:=hide (fun k=>hS.rounds k)
 have LR:=hide (fun k=>(u32V_len (Cha.rounds S k)).trans (hS.rounds k).1)
 have TR:=hide (fun k w=>twoRounds_any (Cha.rounds S k) w (hS.rounds k))
 generalize l.getD 12 0=v12 at *
 clear hS hl hn hSd
 go_enter Tryz.func110,Tryz.ntmps110
 go_wp2_with (with_reducible refine wpList_stop (.indexAddr 155 (.tmp 2) (.const (.int .i64 12))) rfl ?_)
 refine wpList_letterW (fun w'=>Blk w' (w.heap.size) 155 (u32V l)∧Blk w' (w.heap.size+1) 163 (u8V (zeros8 64))∧Below w.heap.size w w'∧w'.heap.size=w.heap.size+1+1) ⟨(Blk.new rfl rfl).alloc _,Blk.new (by simp) rfl,((Below.refl _ _).alloc (Nat.le_refl _) _).alloc (by simp) _,by simp⟩ ?_
 rintro w0 ⟨hB0,hZ0,hb0,hs0⟩
 have c12:=hB0.cell hG
 have f:=hB0.frozen 12
 have hB1:=hB0.setCell_same 12 (.int .u32 (n:Nat))
 rw[u32V_put,←HSD.out] at hB1
 have HB1:=hide hB1
 have HZ1:=hide (hZ0.setCell_other ⟨w.heap.size,12,none⟩ (.int .u32 (n:Nat)) (by first | (simp;done) | (simp;omega)))
 have HBE1:=hide (hb0.setCell (p:=⟨w.heap.size,12,none⟩) (Nat.le_refl _) (.int .u32 (n:Nat)))
 have HZS:=hide (show (w0.setCell ⟨w.heap.size,12,none⟩ (.int .u32 (n:Nat))).heap.size=w.heap.size+1+1 by simp[World.setCell,hs0])
 clear hB1 hZ0 hb0 hs0
 go_wp2_with (with_reducible refine wpList_stop (.load 155 (.tmp 2)) rfl ?_)
 refine wpList_letterW (fun w'=>Blk w' (w.heap.size) 155 (u32V S)∧Blk w' (w.heap.size+1) 163 (u8V (zeros8 64))∧Below w.heap.size w w'∧w'.heap.size=w.heap.size+1+1) ⟨HB1.out,HZ1.out,HBE1.out,HZS.out⟩ ?_
 rintro w1 ⟨hB1,hZ1,hb1,hs1⟩
 clear HB1 HZ1 HBE1 HZS c12 f hB0
 go_wp2_with (first | ((with_reducible refine wpList_at (.load 155 (.tmp 2)) rfl ?_);refine wpList_load_row rfl 155 (.tmp 2) rfl (w.heap.size) rfl 16 150 Tryz.underlying155 info16 (u32V S) 155 hB1 LS.out ?_) | (with_reducible refine wpList_stop (.store 155 (.tmp 5) (.tmp 12)) rfl ?_))
 refine wpList_letterW (fun w'=>Blk w' (w.heap.size) 155 (u32V S)∧Blk w' (w.heap.size+1) 163 (u8V (zeros8 64))∧Blk w' (w.heap.size+1+1) 155 (u32V (zeros32 16))∧Below w.heap.size w w'∧w'.heap.size=w.heap.size+1+1+1) ⟨hB1.alloc _,hZ1.alloc _,Blk.new hs1.symm rfl,hb1.alloc (by omega) _,by simp;omega⟩ ?_
 rintro w2 ⟨hB2,hZ2,hM2,hb2,hs2⟩
 clear hB1 hZ1 hb1 hs1
 go_wp2_with ((with_reducible refine wpList_at (.store 155 (.tmp 5) (.tmp 12)) rfl ?_);refine wpList_store_row rfl 155 (.tmp 5) (.tmp 12) rfl (w.heap.size+1+1) rfl 16 info16 (u32V S) rfl LS.out (u32V_one _) (u32V (zeros32 16)) 155 hM2 LZ16 ?_;intro w3 hM3 hG3)
 refine wp_letterW (fun w'=>Blk w' (w.heap.size) 155 (u32V S)∧Blk w' (w.heap.size+1) 163 (u8V (zeros8 64))∧Blk w' (w.heap.size+1+1) 155 (u32V S)∧Below w.heap.size w w'∧w.heap.size+1+1<w'.heap.size) ⟨hB2.grown hG3 (by first | (simp;done) | (simp;omega)),hZ2.grown hG3 (by first | (simp;done) | (simp;omega)),hM3,hb2.trans (RowKit.Below.of_grown hG3 (by omega) (by omega)),by have:=hG3.size;omega⟩ ?_
 rintro w4 ⟨hB4,hZ4,hM4,hb4,hs4⟩
 clear hB2 hZ2 hM2 hb2 hs2 hM3 hG3
 go_loopw [6] (fun vi wr=>∃ k:Nat,k≤10∧vi = .int .i64 (k:Nat)∧Blk wr (w.heap.size) 155 (u32V S)∧Blk wr (w.heap.size+1) 163 (u8V (zeros8 64))∧Blk wr (w.heap.size+1+1) 155 (u32V (Cha.rounds S k))∧Below w.heap.size w wr∧w.heap.size+1+1<wr.heap.size) (fun i _=>10-(intOf i).toNat)
 case atStart=>exact ⟨0,by omega,rfl,hB4,hZ4,hM4,hb4,hs4⟩
 case round=>
  clear hB4 hZ4 hM4 hb4 hs4
  obtain ⟨k,hk,rfl,hB,hZ,hM,hbe,hsz⟩:=hrel
  by_cases hlt:k<10
  ·have TRk:=hide (TR.out k)
   have hnx:=rounds_next S k
   have HNX:=hide hnx
   have LRk:=hide (LR.out k)
   have LRn:=hide (LR.out (k+1))
   rw[hnx] at LRn
   have jk:(k:Int)<10:=by omega
   clear hnx
   go_wp2_with ((with_reducible refine wpList_at (.load 155 (.tmp 5)) rfl ?_);refine wpList_load_row rfl 155 (.tmp 5) rfl (w.heap.size+1+1) rfl 16 150 Tryz.underlying155 info16 (u32V (Cha.rounds S k)) 155 hM LRk.out ?_)
   refine (TRk.out _).mono ?_
   rintro e w5 ⟨rfl,hb5⟩
   have hB5:=hB.below hb5 (by omega)
   have hZ5:=hZ.below hb5 (by omega)
   have hM5:=hM.below hb5 (by omega)
   have hbe5:=hbe.trans (hb5.mono hbe.size)
   have hs5:=hb5.size
   go_wp2_with ((with_reducible refine wpList_at (.store 155 (.tmp 5) (.tmp 18)) rfl ?_);refine wpList_store_row rfl 155 (.tmp 5) (.tmp 18) rfl (w.heap.size+1+1) rfl 16 info16 (u32V (Cha.diags (Cha.cols (Cha.rounds S k) 4) 4)) rfl LRn.out (u32V_one _) (u32V (Cha.rounds S k)) 155 hM5 LRk.out ?_;intro w6 hM6 hG6)
   go_roundw
   case rel=>
    refine ⟨k+1,by omega,by go_num,hB5.grown hG6 (by first | (simp;done) | (simp;omega)),hZ5.grown hG6 (by first | (simp;done) | (simp;omega)),by rw[HNX.out];exact hM6,hbe5.trans (RowKit.Below.of_grown hG6 (by omega) (by omega)),by have:=hG6.size;omega⟩
   case measure=>simp[intOf];omega
  ·obtain rfl:k=10:=by omega
   have RO10:=hide (RO.out 10)
   clear TR LR RO
   generalize hX:Cha.rounds S 10=X at *
   have HX:=hide hX
   clear hX
   have HB:=hide hB
   have HZ:=hide hZ
   have HM:=hide hM
   have HBE:=hide hbe
   clear hB hZ hM hbe
   go_wp2
   refine wp_letterW (fun w'=>Blk w' (w.heap.size) 155 (u32V S)∧Blk w' (w.heap.size+1) 163 (u8V (zeros8 64))∧Blk w' (w.heap.size+1+1) 155 (u32V X)∧Blk w' (wr.heap.size) 163 (u8V (zeros8 64))∧Below w.heap.size w w'∧w.heap.size+1+1<wr.heap.size∧wr.heap.size<w'.heap.size) ⟨HB.out.alloc _,HZ.out.alloc _,HM.out.alloc _,Blk.new rfl rfl,HBE.out.alloc HBE.out.size _,hsz,by simp⟩ ?_
   clear HB HZ HM HBE hsz
   generalize wr.heap.size=g at *
   rintro w5 ⟨hB,hZ,hM,hN,hbe,hg,hsz⟩
   go_loopw [8] (fun vi wr=>∃ k:Nat,k≤16∧vi = .int .i64 (k:Nat)∧Blk wr (w.heap.size) 155 (u32V S)∧Blk wr (w.heap.size+1) 163 (u8V (zeros8 64))∧Blk wr (w.heap.size+1+1) 155 (u32V X)∧Blk wr (g) 163 (u8V (Cha.outs X S k++zeros8 (64-4*k)))∧Below w.heap.size w wr) (fun i _=>16-(intOf i).toNat)
   case atStart=>exact ⟨0,by omega,rfl,hB,hZ,hM,hN,hbe⟩
   case round=>
    clear hB hZ hM hN hbe hsz
    obtain ⟨k,hk,rfl,hB,hZ,hM,hN,hbe⟩:=hrel
    by_cases hlt:k<16
    ·have c1:=hM.cell (u32V_get X k (by rw[RO10.out.1];exact hlt))
     have c2:=hB.cell (u32V_get S k (by rw[HS.out.1];exact hlt))
     obtain ⟨p0,p1,p2,p3,hp0,hp1,hp2,hp3,q0,q1,q2,q3,r0,r1,r2,r3,j0,j1,j2,j3⟩:=four_places k hlt
     obtain ⟨v,hv⟩:∃ v:Nat,v=Cha.sumW X S k:=⟨_,rfl⟩
     have n1:(((X.getD k 0:Nat):Int)+((S.getD k 0:Nat):Int))%4294967296=(v:Int):=by rw[hv];exact sumc _ _
     obtain ⟨b0,b1,b2,b3,m0,m1,m2,m3,m4,hb0,hb1,hb2,hb3⟩:=four_bytes v (by rw[hv];exact Nat.mod_lt _ (by decide))
     have hst:=outs_step X S k hlt v hv p0 p1 p2 p3 hp0 hp1 hp2 hp3
     rw[←hb0,←hb1,←hb2,←hb3] at hst
     generalize X.getD k 0=x at *
     generalize S.getD k 0=y at *
     have hd:(Cha.outs X S k++zeros8 (64-4*k)).length=64:=by rw[List.length_append,Cha.outs_len];simp[zeros8];omega
     generalize Cha.outs X S k++zeros8 (64-4*k)=D at *
     have HST:=hide hst
     have HDL:=hide hd
     have HP:=hide (And.intro hp0 (And.intro hp1 (And.intro hp2 hp3)))
     have jk:(k:Int)<16:=by omega
     have hN1:=hN.setCell_same p0 (.int .u8 ((b0.toNat:Nat):Int))
     rw[u8V_put] at hN1
     have hN2:=hN1.setCell_same p1 (.int .u8 ((b1.toNat:Nat):Int))
     rw[u8V_put] at hN2
     have hN3:=hN2.setCell_same p2 (.int .u8 ((b2.toNat:Nat):Int))
     rw[u8V_put] at hN3
     have hN4:=hN3.setCell_same p3 (.int .u8 ((b3.toNat:Nat):Int))
     rw[u8V_put,HST.out] at hN4
     have d0:=hN.cell (u8V_at2 D p0 (by omega))
     have d1:=hN1.cell (u8V_at2 (D.set p0 b0) p1 (by simp;omega))
     have d2:=hN2.cell (u8V_at2 ((D.set p0 b0).set p1 b1) p2 (by simp;omega))
     have d3:=hN3.cell (u8V_at2 (((D.set p0 b0).set p1 b1).set p2 b2) p3 (by simp;omega))
     generalize D.getD p0 0=e0 at *
     generalize (D.set p0 b0).getD p1 0=e1 at *
     generalize ((D.set p0 b0).set p1 b1).getD p2 0=e2 at *
     generalize (((D.set p0 b0).set p1 b1).set p2 b2).getD p3 0=e3 at *
     have f0:=hN.frozen p0
     have f1:=hN1.frozen p1
     have f2:=hN2.frozen p2
     have f3:=hN3.frozen p3
     have HN4:=hide hN4
     have HB:=hide ((((hB.setCell_other ⟨g,p0,none⟩ (.int .u8 ((b0.toNat:Nat):Int)) (by first | (simp;done) | (simp;omega))).setCell_other ⟨g,p1,none⟩ (.int .u8 ((b1.toNat:Nat):Int)) (by first | (simp;done) | (simp;omega))).setCell_other ⟨g,p2,none⟩ (.int .u8 ((b2.toNat:Nat):Int)) (by first | (simp;done) | (simp;omega))).setCell_other ⟨g,p3,none⟩ (.int .u8 ((b3.toNat:Nat):Int)) (by first | (simp;done) | (simp;omega)))
     have HZ:=hide ((((hZ.setCell_other ⟨g,p0,none⟩ (.int .u8 ((b0.toNat:Nat):Int)) (by first | (simp;done) | (simp;omega))).setCell_other ⟨g,p1,none⟩ (.int .u8 ((b1.toNat:Nat):Int)) (by first | (simp;done) | (simp;omega))).setCell_other ⟨g,p2,none⟩ (.int .u8 ((b2.toNat:Nat):Int)) (by first | (simp;done) | (simp;omega))).setCell_other ⟨g,p3,none⟩ (.int .u8 ((b3.toNat:Nat):Int)) (by first | (simp;done) | (simp;omega)))
     have HM:=hide ((((hM.setCell_other ⟨g,p0,none⟩ (.int .u8 ((b0.toNat:Nat):Int)) (by first | (simp;done) | (simp;omega))).setCell_other ⟨g,p1,none⟩ (.int .u8 ((b1.toNat:Nat):Int)) (by first | (simp;done) | (simp;omega))).setCell_other ⟨g,p2,none⟩ (.int .u8 ((b2.toNat:Nat):Int)) (by first | (simp;done) | (simp;omega))).setCell_other ⟨g,p3,none⟩ (.int .u8 ((b3.toNat:Nat):Int)) (by first | (simp;done) | (simp;omega)))
     have HBE:=hide ((((hbe.setCell (p:=⟨g,p0,none⟩) (show w.heap.size≤g by omega) (.int .u8 ((b0.toNat:Nat):Int))).setCell (p:=⟨g,p1,none⟩) (show w.heap.size≤g by omega) (.int .u8 ((b1.toNat:Nat):Int))).setCell (p:=⟨g,p2,none⟩) (show w.heap.size≤g by omega) (.int .u8 ((b2.toNat:Nat):Int))).setCell (p:=⟨g,p3,none⟩) (show w.heap.size≤g by omega) (.int .u8 ((b3.toNat:Nat):Int)))
     clear hN1 hN2 hN3 hN4 hN hB hZ hM hbe hst hd hp0 hp1 hp2 hp3 hv hb0 hb1 hb2 hb3
     go_wp2
     go_region
     go_wp2
     go_roundw
     case rel=>exact ⟨k+1,by omega,by go_num,HB.out,HZ.out,HM.out,HN4.out,HBE.out.drew⟩
     case measure=>simp[intOf];omega
    ·obtain rfl:k=16:=by omega
     have hN2:Blk wr (g) 163 (u8V (Cha.outs X S 16)):=by
      have e:Cha.outs X S 16++zeros8 (64-4*16)=Cha.outs X S 16:=List.append_nil _
      rw[e] at hN
      exact hN
     have LO:=hide (show (u8V (Cha.outs X S 16)).length=64 by rw[u8V_len,Cha.outs_len])
     generalize hO:Cha.outs X S 16=out at *
     have HO:=hide hO
     clear hN hO
     go_wp2_with (first | ((with_reducible refine wpList_at (.load 163 (.tmp 7)) rfl ?_);refine wpList_load_row rfl 163 (.tmp 7) rfl (g) rfl 64 5 Tryz.underlying163 info64b (u8V out) 163 hN2 LO.out ?_) | ((with_reducible refine wpList_at (.store 163 (.tmp 4) (.tmp 56)) rfl ?_);refine wpList_store_row rfl 163 (.tmp 4) (.tmp 56) rfl (w.heap.size+1) rfl 64 info64b (u8V out) rfl LO.out (u8V_one _) (u8V (zeros8 64)) 163 hZ LZ64 ?_;intro w9 hB9 hG9))
     exact ret_rowB Tryz.results110 (w.heap.size+1) rfl 64 5 Tryz.underlying163 info64b (u8V out) 163 hB9 LO.out rfl ⟨by rw[HX.out,HO.out],hbe.trans (RowKit.Below.of_grown hG9 (by omega) hbe.size)⟩
theorem all_list (sg z4 key nonce:ByteArray) (h1:sg.data.toList=Cha.sigma) (h2:z4.data.toList=[0,0,0,0]):(sg++key++z4++nonce).data.toList=Cha.sigma++key.data.toList++[0,0,0,0]++nonce.data.toList:=by
 rw[cat_list,cat_list,cat_list,h1,h2]
theorem or_byte (old x p:Nat) (ho:old<4294967296) (hp:p≤16777216) (hx:x<256):bits .or .u32 (old:Int) ((x:Int)%4294967296*(p:Int)%4294967296)=((old ||| x*p:Nat):Int):=by
 have h1:x*p≤255*16777216:=Nat.mul_le_mul (by omega) hp
 rw[show (x:Int)%4294967296=(x:Int) by omega,←Int.natCast_mul,show ((x*p:Nat):Int)%4294967296=((x*p:Nat):Int) by omega]
 exact u32_or_nat _ _ ho (by omega)
theorem or_byte0 (old x:Nat) (ho:old<4294967296) (hx:x<256):bits .or .u32 (old:Int) ((x:Int)%4294967296)=((old ||| x*2 ^ (8*0):Nat):Int):=by
 rw[show (x:Int)%4294967296=(x:Int) by omega,show x*2 ^ (8*0)=x from Nat.mul_one x]
 exact u32_or_nat _ _ ho (by omega)
theorem or_byte1 (old x:Nat) (ho:old<4294967296) (hx:x<256):bits .or .u32 (old:Int) ((x:Int)%4294967296*256%4294967296)=((old ||| x*2 ^ (8*1):Nat):Int):=by
 have e:2 ^ (8*1)=256:=by decide
 rw[e]
 exact or_byte old x 256 ho (by decide) hx
theorem or_byte2 (old x:Nat) (ho:old<4294967296) (hx:x<256):bits .or .u32 (old:Int) ((x:Int)%4294967296*65536%4294967296)=((old ||| x*2 ^ (8*2):Nat):Int):=by
 have e:2 ^ (8*2)=65536:=by decide
 rw[e]
 exact or_byte old x 65536 ho (by decide) hx
theorem or_byte3 (old x:Nat) (ho:old<4294967296) (hx:x<256):bits .or .u32 (old:Int) ((x:Int)%4294967296*16777216%4294967296)=((old ||| x*2 ^ (8*3):Nat):Int):=by
 have e:2 ^ (8*3)=16777216:=by decide
 rw[e]
 exact or_byte old x 16777216 ho (by decide) hx
theorem first_nums (i:Nat) (h:i<64):∃ q r:Nat,q=i/4∧r=i%4∧(i:Int).tdiv 4=(q:Int)∧(i:Int).tmod 4=(r:Int)∧(q:Int)<16∧r<4∧q<16:=by
 refine ⟨i/4,i%4,rfl,rfl,?_,?_,by omega,by omega,by omega⟩
 ·rw[Int.tdiv_eq_ediv_of_nonneg (by omega)];omega
 ·rw[Int.tmod_eq_emod_of_nonneg (by omega)];omega
set_option maxRecDepth 100000 in
set_option maxHeartbeats 1600000 in
theorem firstWords_any (key nonce:ByteArray) (w:World) (hk:key.size=32) (hn:nonce.size=12):
  Calls Tryz.prog 103 #[.string key,.string nonce] w fun e w'=>e = .returned (.agg (u32V (Cha.state key.data.toList nonce.data.toList 0)).toArray)∧Below w.heap.size w w':=by
 obtain ⟨sg,hsg⟩:∃ sg:ByteArray,sg=⟨#[101,120,112,97,110,100,32,51,50,45,98,121,116,101,32,107]⟩:=⟨_,rfl⟩
 obtain ⟨z4,hz4⟩:∃ z4:ByteArray,z4=⟨#[0,0,0,0]⟩:=⟨_,rfl⟩
 have hal:=all_list sg z4 key nonce (by rw[hsg];rfl) (by rw[hz4])
 have hfin:=Cha.state_eq key.data.toList nonce.data.toList (by rw[text_len];exact hk)
 rw[←hal] at hfin
 have h16:sg.size=16:=by rw[hsg];rfl
 have h4:z4.size=4:=by rw[hz4];rfl
 have haz:(sg++key++z4++nonce).size=64:=by rw[cat_size,cat_size,cat_size,h16,h4];omega
 have HSG:=hide hsg
 have HZ4:=hide hz4
 have HFIN:=hide hfin
 have HAZ:=hide haz
 have j0:¬ 9223372036854775807<sg.size+key.size:=by omega
 have j1:¬ 9223372036854775807<(sg++key).size+z4.size:=by rw[cat_size];omega
 have j2:¬ 9223372036854775807<(sg++key++z4).size+nonce.size:=by rw[cat_size,cat_size];omega
 rw[hsg] at j0 j1 j2
 rw[hz4] at j1 j2
 have J0:=hide j0
 clear hal hfin haz h16 h4 hk hn hsg hz4
 go_enter Tryz.func103,Tryz.ntmps103
 go_wp2
 rw[←HSG.out,←HZ4.out]
 clear j0 j1 j2 HSG HZ4
 generalize sg++key++z4++nonce=all at *
 have NT:=hide (fun i h=>Cha.nums_take all.data.toList i h)
 have NL:=hide (fun i=>Cha.number_low all.data.toList i)
 have LN:=hide (fun i=>(u32V_len (Cha.nums (all.data.toList.take i) 16)).trans (Cha.nums_len _ 16))
 go_loopw [7] (fun vi wr=>∃ i:Nat,i≤64∧vi = .int .i64 (i:Nat)∧Blk wr (w.heap.size) 155 (u32V (zeros32 16))∧Blk wr (w.heap.size+1) 155 (u32V (Cha.nums (all.data.toList.take i) 16))∧Below w.heap.size w wr) (fun i _=>64-(intOf i).toNat)
 case atStart=>exact ⟨0,by omega,rfl,(Blk.new rfl rfl).alloc _,Blk.new (by simp) rfl,((Below.refl _ _).alloc (Nat.le_refl _) _).alloc (by simp) _⟩
 case round=>
  obtain ⟨i,hi,rfl,hR,hB,hbe⟩:=hrel
  have haz:=HAZ.out
  by_cases hlt:i<64
  ·have i1:i<all.size:=by omega
   obtain ⟨q,r,hq,hr,t1,t2,hq16,hr4,hqn⟩:=first_nums i hlt
   have c0:=hB.cell (u32V_get (Cha.nums (all.data.toList.take i) 16) q (by rw[Cha.nums_len];exact hqn))
   rw[Cha.nums_at _ _ _ hqn] at c0
   have f0:=hB.frozen q
   have hx:=UInt8.toNat_lt all[i]
   have ho:=Cha.number_lt (all.data.toList.take i) (4*q)
   have hst:=NT.out i hlt
   rw[←hq,←hr,←byte_at all i i1] at hst
   obtain ⟨old,hold⟩:∃ old,old=Cha.number (all.data.toList.take i) (4*q):=⟨_,rfl⟩
   rw[←hold] at hst c0 ho
   have key:∀ v:Int,v=((old ||| all[i].toNat*2 ^ (8*r):Nat):Int)→Blk (wr.setCell ⟨w.heap.size+1,q,none⟩ (.int .u32 v)).drew (w.heap.size) 155 (u32V (zeros32 16))∧Blk (wr.setCell ⟨w.heap.size+1,q,none⟩ (.int .u32 v)).drew (w.heap.size+1) 155 (u32V (Cha.nums (all.data.toList.take (i+1)) 16))∧Below w.heap.size w (wr.setCell ⟨w.heap.size+1,q,none⟩ (.int .u32 v)).drew:=by
    rintro v rfl
    have h:=hB.setCell_same q (.int .u32 ((old ||| all[i].toNat*2 ^ (8*r):Nat):Int))
    rw[u32V_put,hst] at h
    exact ⟨(hR.setCell_other ⟨w.heap.size+1,q,none⟩ _ (by first | (simp;done) | (simp;omega))).drew,h.drew,(hbe.setCell (p:=⟨w.heap.size+1,q,none⟩) (by simp) _).drew⟩
   have KEY:=hide key
   have OB1:=hide (or_byte1 old all[i].toNat ho hx)
   have OB2:=hide (or_byte2 old all[i].toNat ho hx)
   have OB3:=hide (or_byte3 old all[i].toNat ho hx)
   have OB0:=hide (or_byte0 old all[i].toNat ho hx)
   have js:(i:Int)<(all.size:Int):=by omega
   have j64:(i:Int)<64:=by omega
   clear key hst hB hR hbe ho hold hq hr hx haz hqn
   rcases (show r=0∨r=1∨r=2∨r=3 by omega) with rfl | rfl | rfl | rfl
   ·clear hr4
    go_wp2
    go_region
    go_wp2
    go_roundw
    case rel=>exact ⟨i+1,by omega,by go_num,KEY.out _ OB0.out⟩
    case measure=>simp[intOf];omega
   ·clear hr4
    go_wp2
    go_region
    go_wp2
    go_roundw
    case rel=>exact ⟨i+1,by omega,by go_num,KEY.out _ OB1.out⟩
    case measure=>simp[intOf];omega
   ·clear hr4
    go_wp2
    go_region
    go_wp2
    go_roundw
    case rel=>exact ⟨i+1,by omega,by go_num,KEY.out _ OB2.out⟩
    case measure=>simp[intOf];omega
   ·clear hr4
    go_wp2
    go_region
    go_wp2
    go_roundw
    case rel=>exact ⟨i+1,by omega,by go_num,KEY.out _ OB3.out⟩
    case measure=>simp[intOf];omega
  ·obtain rfl:i=64:=by omega
   have js:¬ (64:Int)<(all.size:Int):=by omega
   have e:all.data.toList.take 64=all.data.toList:=List.take_of_length_le (by rw[text_len];omega)
   rw[e,HFIN.out] at hB
   have LS:=hide (show (u32V (Cha.state key.data.toList nonce.data.toList 0)).length=16 by rw[←HFIN.out,u32V_len,Cha.nums_len])
   clear e haz NT NL LN HFIN
   go_wp2_with (first | ((with_reducible refine wpList_at (.load 155 (.tmp 6)) rfl ?_);refine wpList_load_row rfl 155 (.tmp 6) rfl (w.heap.size+1) rfl 16 150 Tryz.underlying155 info16 (u32V (Cha.state key.data.toList nonce.data.toList 0)) 155 hB LS.out ?_) | ((with_reducible refine wpList_at (.store 155 (.tmp 4) (.tmp 38)) rfl ?_);refine wpList_store_row rfl 155 (.tmp 4) (.tmp 38) rfl (w.heap.size) rfl 16 info16 (u32V (Cha.state key.data.toList nonce.data.toList 0)) rfl LS.out (u32V_one _) (u32V (zeros32 16)) 155 hR LZ16 ?_;intro w9 hB9 hG9))
   exact ret_rowB Tryz.results103 (w.heap.size) rfl 16 150 Tryz.underlying155 info16 (u32V (Cha.state key.data.toList nonce.data.toList 0)) 155 hB9 LS.out rfl ⟨rfl,hbe.trans (RowKit.Below.of_grown hG9 (Nat.le_refl _) hbe.size)⟩
namespace Cha
theorem blockAns_bad {key nonce:ByteArray} {n:Int} (h:(blockAns key nonce n).2≠0):(blockAns key nonce n).1=[]:=by
 unfold blockAns at h ⊢
 split
 ·rfl
 ·split
  ·rfl
  ·rename_i h1 h2;rw[if_neg h1,if_neg h2] at h;exact absurd rfl h
theorem blockAns_good {key nonce:ByteArray} {n:Int} (h:(blockAns key nonce n).2=0):key.size=32∧nonce.size=12∧0≤n∧n≤4294967295∧(blockAns key nonce n).1=block key.data.toList nonce.data.toList n.toNat:=by
 unfold blockAns at h ⊢
 by_cases h1:key.size≠32∨nonce.size≠12
 ·rw[if_pos h1] at h;exact absurd h (by decide)
 ·by_cases h2:n<0∨4294967295<n
  ·rw[if_neg h1,if_pos h2] at h;exact absurd h (by decide)
  ·rw[if_neg h1,if_neg h2]
   exact ⟨by omega,by omega,by omega,by omega,rfl⟩
end Cha
set_option maxHeartbeats 400000 in
theorem check_any (key nonce:ByteArray) (n:Int) (w:World):
  Calls Tryz.prog 102 #[.string key,.string nonce,.int .i64 n] w fun e w'=>e = .returned (.int .i64 (Cha.blockAns key nonce n).2)∧w'=w:=by
 unfold Cha.blockAns
 by_cases h1:key.size=32
 ·have z1:((key.size:Int) != 32)=false:=by rw[h1];rfl
  by_cases h2:nonce.size=12
  ·have z2:((nonce.size:Int) != 12)=false:=by rw[h2];rfl
   rw[if_neg (by omega)]
   by_cases h3:n<0
   ·rw[if_pos (Or.inl h3)]
    clear h1 h2
    go_enter Tryz.func102,Tryz.ntmps102
    go_wp2
    go_ret
    exact ⟨rfl,rfl⟩
   ·by_cases h4:4294967295<n
    ·rw[if_pos (Or.inr h4)]
     clear h1 h2
     go_enter Tryz.func102,Tryz.ntmps102
     go_wp2
     go_ret
     exact ⟨rfl,rfl⟩
    ·rw[if_neg (by omega)]
     clear h1 h2
     go_enter Tryz.func102,Tryz.ntmps102
     go_wp2
     go_ret
     exact ⟨rfl,rfl⟩
  ·have z2:((nonce.size:Int) != 12)=true:=by rw[bne_iff_ne];omega
   rw[if_pos (Or.inr h2)]
   clear h1 h2
   go_enter Tryz.func102,Tryz.ntmps102
   go_wp2
   go_ret
   exact ⟨rfl,rfl⟩
 ·have z1:((key.size:Int) != 32)=true:=by rw[bne_iff_ne];omega
  rw[if_pos (Or.inl h1)]
  clear h1
  go_enter Tryz.func102,Tryz.ntmps102
  go_wp2
  go_ret
  exact ⟨rfl,rfl⟩
theorem block_of (key nonce:List UInt8) (n:Nat):Cha.outs (Cha.rounds ((Cha.state key nonce 0).set 12 n) 10) ((Cha.state key nonce 0).set 12 n) 16=Cha.block key nonce n:=by
 rw[Cha.state_set];rfl
set_option maxRecDepth 100000 in
set_option maxHeartbeats 1600000 in
theorem block_ok:BlockOK:=by
 intro key nonce n w _ _
 unfold ansV
 have HC:=hide (fun w=>check_any key nonce n w)
 by_cases h0:(Cha.blockAns key nonce n).2=0
 ·obtain ⟨hk,hn,hn0,hn1,hbk⟩:=Cha.blockAns_good h0
  rw[h0,hbk]
  rw[h0] at HC
  obtain ⟨m,rfl⟩:∃ m:Nat,n=(m:Int):=⟨n.toNat,by omega⟩
  have e1:(m:Int)%4294967296=(m:Int):=by omega
  have e2:IntKind.u32.wrap (m:Int)=(m:Int):=by rw[IntKind.wrap_u32'];exact e1
  have FW:=hide (fun w=>firstWords_any key nonce w hk hn)
  have hok:=Cha.state_ok key.data.toList nonce.data.toList 0 (by decide)
  have MB:=hide (fun w=>makeBlock_any (Cha.state key.data.toList nonce.data.toList 0) m w hok (by omega))
  rw[block_of] at MB
  have LS:=hide ((u32V_len (Cha.state key.data.toList nonce.data.toList 0)).trans hok.1)
  rw[show ((m:Int)).toNat=m from rfl]
  have hbl:=Cha.block_len key.data.toList nonce.data.toList m
  generalize Cha.state key.data.toList nonce.data.toList 0=S at *
  generalize Cha.block key.data.toList nonce.data.toList m=out at *
  have LO:=hide ((u8V_len out).trans hbl)
  have HBL:=hide hbl
  clear hok hk hn hn0 hn1 h0 hbk hbl
  go_enter Tryz.func104,Tryz.ntmps104
  go_wp2_with fail
  refine (HC.out _).mono ?_
  rintro e wx ⟨rfl,hw⟩
  obtain rfl:w=wx:=hw.symm
  clear HC
  go_wp2_with fail
  refine (FW.out _).mono ?_
  rintro e w1 ⟨rfl,hb1⟩
  clear FW
  go_wp2_with (with_reducible refine wpList_stop (.store 155 (.tmp 9) (.tmp 22)) rfl ?_)
  refine wpList_letterW (fun w'=>Blk w' w1.heap.size 155 (u32V (zeros32 16))∧Below w.heap.size w w'∧w.heap.size≤w1.heap.size∧w1.heap.size<w'.heap.size) ⟨Blk.new rfl rfl,hb1.alloc hb1.size _,hb1.size,by simp⟩ ?_
  clear hb1
  generalize w1.heap.size=g1 at *
  rintro w2 ⟨hB2,hb2,hg1,hs2⟩
  go_wp2_with (first | ((with_reducible refine wpList_at (.store 155 (.tmp 9) (.tmp 22)) rfl ?_);refine wpList_store_row rfl 155 (.tmp 9) (.tmp 22) rfl (g1) rfl 16 info16 (u32V S) rfl LS.out (u32V_one _) (u32V (zeros32 16)) 155 hB2 LZ16 ?_;intro w3 hB3 hG3) | ((with_reducible refine wpList_at (.load 155 (.tmp 9)) rfl ?_);refine wpList_load_row rfl 155 (.tmp 9) rfl (g1) rfl 16 150 Tryz.underlying155 info16 (u32V S) 155 hB3 LS.out ?_))
  have hb3:=hb2.trans (RowKit.Below.of_grown hG3 hg1 (by omega))
  refine (MB.out _).mono ?_
  rintro e w4 ⟨rfl,hb4⟩
  have hbe4:=hb3.trans (hb4.mono hb3.size)
  clear MB hB2 hb2 hs2 hB3 hG3 hb3 hb4
  go_wp2_with (with_reducible refine wpList_stop (.store 163 (.tmp 10) (.tmp 26)) rfl ?_)
  refine wpList_letterW (fun w'=>Blk w' w4.heap.size 163 (u8V (zeros8 64))∧Below w.heap.size w w'∧w.heap.size≤w4.heap.size∧w4.heap.size<w'.heap.size) ⟨Blk.new rfl rfl,hbe4.alloc hbe4.size _,hbe4.size,by simp⟩ ?_
  clear hbe4
  generalize w4.heap.size=g2 at *
  rintro w5 ⟨hB5,hb5,hg2,hs5⟩
  go_wp2_with (first | ((with_reducible refine wpList_at (.store 163 (.tmp 10) (.tmp 26)) rfl ?_);refine wpList_store_row rfl 163 (.tmp 10) (.tmp 26) rfl (g2) rfl 64 info64b (u8V out) rfl LO.out (u8V_one _) (u8V (zeros8 64)) 163 hB5 LZ64 ?_;intro w6 hB6 hG6) | (with_reducible refine wpList_stop (.buildSlice 67 0 #[]) rfl ?_))
  refine wpList_letterW (fun w'=>Blk w' g2 163 (u8V out)∧Below w.heap.size w w'∧g2<w'.heap.size) ⟨hB6,hb5.trans (RowKit.Below.of_grown hG6 hg2 (by omega)),by have:=hG6.size;omega⟩ ?_
  clear hB5 hb5 hs5 hB6 hG6
  rintro w7 ⟨hB7,hb7,hs7⟩
  go_wp2
  refine wp_letterW (fun w'=>Blk w' g2 163 (u8V out)∧Blk w' w7.heap.size 5 []∧Below w.heap.size w w'∧w.heap.size≤w7.heap.size∧g2<w7.heap.size∧w7.heap.size<w'.heap.size) ⟨hB7.alloc _,Blk.new rfl rfl,hb7.alloc hb7.size _,hb7.size,hs7,by simp⟩ ?_
  clear hB7 hb7 hs7
  generalize w7.heap.size=g3 at *
  rintro wb ⟨hB,hE,hbw,hg3,hg23,hsw⟩
  have HB:=hide hB
  have HBW:=hide hbw
  have HE:=hide hE
  clear hB hbw hE
  go_loopw [11,12] (fun vo vi wr=>∃ i:Nat,i≤64∧vi = .int .i64 (i:Nat)∧Row wr g3 5 1 vo i (u8L (out.take i))∧Below g3 wb wr) (fun _ i _=>64-(intOf i).toNat)
  case atStart=>exact ⟨0,by omega,rfl,Row.zero (Nat.le_refl _) HE.out,Below.refl _ _⟩
  case round=>
   obtain ⟨i,hi,rfl,hrow,hbe⟩:=hrel
   have hsz:g3≤wr.heap.size:=Nat.le_trans (Nat.le_of_lt hsw) hbe.size
   have hbl:=HBL.out
   by_cases hlt:i<64
   ·have hB2:=HB.out.below hbe hg23
    have c0:=hB2.cell (u8V_at2 out i (by omega))
    have hx2:out.take (i+1)=out.take i++[out.getD i 0]:=by rw[List.take_succ_eq_append_getElem (by omega),List.getD_eq_getElem?_getD,List.getElem?_eq_getElem (by omega)];rfl
    generalize out.getD i 0=y at *
    have HX2:=hide hx2
    have HROW:=hide hrow
    have HBE:=hide hbe
    have jj:(i:Int)<64:=by omega
    clear hx2 hrow hbe hB2 hbl
    go_wp2_with (at_builtin;refine wpList_append_u8 rfl (.tmp 32) (.tmp 36) rfl g3 _ i _ rfl (HROW.out.alloc _) ⟨wr.heap.size,0,none⟩ 1 1 [y] rfl rfl (one_news rfl (World.cell?_alloc_at _ _ _ _ rfl)) ?_ ?_ ?_;omega;(simp;omega);intro v1 w5 hr1 hg1 hat1)
    go_roundw
    case rel=>
     refine ⟨i+1,by omega,by go_num,by rw[HX2.out];exact hr1,?_⟩
     exact Below.grown (HBE.out.alloc hsz _) hg1 (by simp;omega) (fun k hk=>(HROW.out.lt k hk).1)
    case measure=>simp[intOf];omega
   ·obtain rfl:i=64:=by omega
    obtain ⟨ao,cap,rfl,hc1,hc2,hcv⟩:=Row.strAny hrow
    rw[List.take_of_length_le (by omega)] at hcv
    have HBE:=hide (HBW.out.trans (hbe.mono hg3))
    clear hrow hbe hc1 hc2 hbl
    go_wp2
    refine bodyPost_ret (results_tmp2 rfl _ _ _) rfl ?_
    exact ⟨rfl,HBE.out⟩
 ·rw[Cha.blockAns_bad h0]
  have z:(((Cha.blockAns key nonce n).2) != 0)=true:=by rw[bne_iff_ne];exact h0
  generalize (Cha.blockAns key nonce n).2=e0 at *
  clear h0
  go_enter Tryz.func104,Tryz.ntmps104
  go_wp2_with fail
  refine (HC.out _).mono ?_
  rintro e wx ⟨rfl,hw⟩
  obtain rfl:w=wx:=hw.symm
  go_wp2
  refine bodyPost_ret (results_tmp2 rfl _ _ _) rfl ?_
  exact ⟨rfl,Below.refl _ _⟩
theorem fill_part (f:Nat→Option (Nat × Nat)) (z cs:List Value) (i off size:Nat) (v:Value) (rest:List (Nat × Value)) (hf:f i=some (off,size)) (hv:v.cells=cs.toArray) (hs:cs.length=size) (hz:off+size≤z.length):
  Instr.fill f z.toArray ((i,v)::rest)=Instr.fill f (laidOver z off cs).toArray rest:=by
 have e1:=foldl_arr off cs.toArray z.toArray (by simp;omega)
 conv=>lhs;unfold Instr.fill
 rw[hf,hv]
 simp only[List.size_toArray,hs]
 rw[if_neg (by simp;omega)]
 exact congrArg (fun x=>Instr.fill f x rest) e1
theorem wpList_build2 {P:Program} {ops:Array Oper} {rest:List Oper} {op:Oper} {a:Act} {w:World} {Q:Exit→Act→World→Prop} (hgd:op.guard=none) (t:TypeId) (x y:Operand) (ho:op.op = .build t #[(0,x),(1,y)])
  (u v r:Value) (hx:a.eval x=u) (hy:a.eval y=v) (hr:(Instr.build t #[(0,u),(1,v)]).run P w = .ok r w) (h:wpList P ops Q rest (a.put op.dst r) w):wpList P ops Q (op::rest) a w:=
 wpList_plain hgd fun K hK=>by unfold Oper.wp;rw[run_build2 t x y ho hx hy hr];exact hK _ _ h
def zStream:List Value:=u32V (zeros32 16)++[.int .u64 0]
theorem infoStrZ:(Tryz.prog.info? 158).map (·.zero)=some (some (.agg zStream.toArray)):=by kernel_rfl
theorem placesStr:∃ fs,Tryz.prog.underlying 158=some (.struct fs)∧fs.toList.mapM (fun f=>(Tryz.prog.info? f.type).map fun i=>(f.offset,i.size))=some [(0,16),(16,1)]:=⟨_,Tryz.underlying158,by kernel_rfl⟩
theorem built_str (l:List Nat) (v:Value) (hl:l.length=16) (hv:v.cells = #[v]) (w:World):(Instr.build 158 #[(0,.agg (u32V l).toArray),(1,v)]).run Tryz.prog w = .ok (.agg (u32V l++[v]).toArray) w:=by
 refine run_build w 158 _ _ ?_
 obtain ⟨it,hi,hz⟩:=Option.map_eq_some_iff.1 infoStrZ
 obtain ⟨fs,hu,hp⟩:=placesStr
 rw[built_struct hi hu hz hp]
 have hzl:zStream.length=17:=by simp[zStream,u32V,zeros32]
 have hul:(u32V l).length=16:=(u32V_len l).trans hl
 have h1:laidOver zStream 0 (u32V l)=u32V l++[.int .u64 0]:=by
  unfold laidOver
  rw[hul]
  simp[zStream,u32V,zeros32]
 have h2:laidOver (u32V l++[.int .u64 0]) 16 [v]=u32V l++[v]:=by
  unfold laidOver
  rw[List.take_left' hul,List.drop_eq_nil_of_le (by simp[hul]),List.append_nil]
 show Instr.fill _ zStream.toArray [(0,.agg (u32V l).toArray),(1,v)]=_
 rw[fill_part _ zStream (u32V l) 0 0 16 _ _ rfl rfl hul (by omega),h1,fill_part _ _ [v] 1 16 1 _ _ rfl hv rfl (by simp[hul]),h2]
 rfl
set_option maxRecDepth 100000 in
set_option maxHeartbeats 1600000 in
theorem begin_ok:BeginOK:=by
 intro key nonce n T c w _ _
 have HC:=hide (fun w=>check_any key nonce n w)
 by_cases h0:(Cha.blockAns key nonce n).2=0
 ·obtain ⟨hk,hn,hn0,hn1,_⟩:=Cha.blockAns_good h0
  rw[h0]
  rw[h0] at HC
  obtain ⟨m,rfl⟩:∃ m:Nat,n=(m:Int):=⟨n.toNat,by omega⟩
  obtain ⟨p,hp⟩:∃ p:Nat,p=m*64+0:=⟨_,rfl⟩
  have e1:IntKind.u64.wrap (m:Int)=(m:Int):=IntWalk.u64_in _ (by omega)
  have e2:IntKind.u64.wrap ((m:Int)*64)=(p:Int):=(IntWalk.u64_in _ (by omega)).trans (by omega)
  have e3:(m:Int)*64=(p:Int):=by omega
  have e4:(p:Int)%18446744073709551616=(p:Int):=by omega
  have e5:(m:Int)%18446744073709551616=(m:Int):=by omega
  have FW:=hide (fun w=>firstWords_any key nonce w hk hn)
  have hok:=Cha.state_ok key.data.toList nonce.data.toList 0 (by decide)
  have LS:=hide ((u32V_len (Cha.state key.data.toList nonce.data.toList 0)).trans hok.1)
  have BD:=hide (built_str (Cha.state key.data.toList nonce.data.toList 0) (.int .u64 (p:Int)) hok.1 rfl)
  have FIN:=hide (show ∀ w2 b,Blk w2 b 158 (u32V (Cha.state key.data.toList nonce.data.toList 0)++[.int .u64 (p:Int)])→fresh T w c b=c→SRep (fresh T w c) w2 c b key.data.toList nonce.data.toList ((m:Int)).toNat 0 from fun w2 b hB hf=>⟨by rw[show ((m:Int)).toNat=m from rfl];omega,by unfold scells;rw[show ((m:Int)).toNat=m from rfl,←hp];exact hB,hf⟩)
  generalize Cha.state key.data.toList nonce.data.toList 0=S at *
  clear hok hk hn hn0 hn1 h0 hp
  go_enter Tryz.func68,Tryz.ntmps68
  go_wp2_with fail
  refine (HC.out _).mono ?_
  rintro e wx ⟨rfl,hw⟩
  obtain rfl:w=wx:=hw.symm
  clear HC hw
  go_wp2_with fail
  refine (FW.out _).mono ?_
  rintro e w1 ⟨rfl,hb1⟩
  clear FW
  go_wp2_with (with_reducible refine wpList_stop (.store 155 (.tmp 9) (.tmp 19)) rfl ?_)
  refine wpList_letterW (fun w'=>Blk w' w1.heap.size 155 (u32V (zeros32 16))∧Below w.heap.size w w'∧w.heap.size≤w1.heap.size∧w1.heap.size<w'.heap.size) ⟨Blk.new rfl rfl,hb1.alloc hb1.size _,hb1.size,by simp⟩ ?_
  clear hb1
  generalize w1.heap.size=g1 at *
  rintro w2 ⟨hB2,hb2,hg1,hs2⟩
  go_wp2_with (first | ((with_reducible refine wpList_at (.store 155 (.tmp 9) (.tmp 19)) rfl ?_);refine wpList_store_row rfl 155 (.tmp 9) (.tmp 19) rfl (g1) rfl 16 info16 (u32V S) rfl LS.out (u32V_one _) (u32V (zeros32 16)) 155 hB2 LZ16 ?_;intro w3 hB3 hG3) | ((with_reducible refine wpList_at (.load 155 (.tmp 9)) rfl ?_);refine wpList_load_row rfl 155 (.tmp 9) rfl (g1) rfl 16 150 Tryz.underlying155 info16 (u32V S) 155 hB3 LS.out ?_) | ((with_reducible refine wpList_at (.build 158 #[(0,.tmp 20),(1,.tmp 23)]) rfl ?_);refine wpList_build2 rfl 158 (.tmp 20) (.tmp 23) rfl _ _ _ rfl rfl (BD.out _) ?_))
  have hb3:=hb2.trans (RowKit.Below.of_grown hG3 hg1 (by omega))
  refine bodyPost_ret (results_tmp2 rfl _ _ _) rfl ?_
  refine ⟨⟨_,rfl,.inr ⟨by first | rfl | trivial,w3.heap.size,rfl,FIN.out _ _ (Blk.new rfl rfl) (fresh_new T w c _ hb3.size)⟩⟩,hb3.alloc hb3.size _⟩
 ·have z:(((Cha.blockAns key nonce n).2) != 0)=true:=by rw[bne_iff_ne];exact h0
  have H0:=hide h0
  generalize (Cha.blockAns key nonce n).2=e0 at *
  clear h0
  go_enter Tryz.func68,Tryz.ntmps68
  go_wp2_with fail
  refine (HC.out _).mono ?_
  rintro e wx ⟨rfl,hw⟩
  obtain rfl:w=wx:=hw.symm
  go_wp2
  refine bodyPost_ret (results_tmp2 rfl _ _ _) rfl ?_
  exact ⟨⟨_,rfl,.inl ⟨H0.out,rfl⟩⟩,Below.refl _ _⟩
theorem tc_one (R S D:List Nat) (m:Nat):∀ v ∈ tcells R S D m,v.oneCell'=true:=by
 intro v hv
 unfold tcells at hv
 rcases List.mem_append.1 hv with hv | hv
 ·rcases List.mem_append.1 hv with hv | hv
  ·rcases List.mem_append.1 hv with hv | hv
   ·exact u32V_one _ v hv
   ·exact u32V_one _ v hv
  ·exact u32V_one _ v hv
 ·rw[List.mem_singleton.1 hv];rfl
theorem infoTag:(Tryz.prog.info? 180).map (·.size)=some 52:=by kernel_rfl
theorem below_new {B:Nat} {a w w':World} {o:Obj} (h:Below B a w) (hB:B≤w.heap.size) (k:(w.alloc o).grownBy w' (some w.heap.size)):Below B a w':=
 (h.alloc hB o).trans (RowKit.Below.of_grown k hB (by simp;omega))
theorem Pol.Sum.ended {r:Nat} {l:List UInt8} {D D2:List Nat} (h:Pol.Sum r l D) (hn:l.length%16≠0) (hv:Dig.val D2%Pol.P=Dig.val (D.set (l.length%16) (D.getD (l.length%16) 0+1))*r%Pol.P):Dig.val D2%Pol.P=Pol.acc r l ((l.length+15)/16):=h.last hn rfl hv
def zTag:List Value:=tcells (zeros32 17) (zeros32 17) (zeros32 17) 0
theorem zTag_len:zTag.length=52:=tc_len (zeros32_len 17) (zeros32_len 17) (zeros32_len 17)
set_option maxRecDepth 100000 in
set_option maxHeartbeats 1600000 in
theorem tsum_any (b:Nat) (R S D:List Nat) (r s:Nat) (l:List UInt8) (w:World) (hR:R.length=17) (hS:S.length=17) (hRl:∀ i,R.getD i 0<256) (hSl:∀ i,S.getD i 0<256) (hr:Dig.val R=r) (hs:Dig.val S=s)
  (hs0:Pol.Sum r l D) (hb:Blk w b 180 (tcells R S D (l.length%16))):
  Calls Tryz.prog 109 #[.pointer (some ⟨b,0,none⟩)] w fun e w'=>e = .returned (.string ⟨(leB (Pol.acc r l ((l.length+15)/16)+s) 16).toArray⟩)∧Below w.heap.size w w':=by
 have hDL:=hs0.len
 have EP:=hide (fun w1=>endPiece_any w.heap.size R S D (l.length%16) w1 hR hS hDL (Nat.lt_of_lt_of_le (Nat.mod_lt _ (by decide)) (by decide)) hRl hs0.lt)
 rw[hr] at EP
 have EN:=hide (fun hn D2=>@Pol.Sum.ended r l D D2 hs0 hn)
 have WH:=hide (fun hn=>hs0.whole hn)
 have hcl:=tc_len (m:=l.length%16) hR hS hDL
 have H1:=hide (tc_one R S D (l.length%16))
 have HR:=hide hb.rangeAll
 have HCT:=hide (tc_count (m:=l.length%16) hR hS hDL)
 have LR:=hide hR
 have LS:=hide hS
 have LD:=hide hDL
 have AD:=hide (fun c1 w (h:Pol.Car c1) (h2:Dig.val c1<Pol.P)=>add_any c1 S w h.1 hS (fun i=>Nat.lt_of_lt_of_le (Pol.Fold.at (l:=c1) ⟨h,Nat.lt_of_lt_of_le h2 (Nat.le_mul_of_pos_left _ (by decide))⟩ i) (by decide)) (fun i=>Nat.lt_of_lt_of_le (hSl i) (by decide)))
 rw[hs] at AD
 clear hb hs0 hRl hSl hR hS hDL hr hs
 generalize hA:Pol.acc r l ((l.length+15)/16)=AC at *
 generalize hM:l.length%16=m at *
 clear hA hM
 obtain ⟨cs,hcs⟩:∃ cs,cs=tcells R S D m:=⟨_,rfl⟩
 have HCS:=hide hcs
 rw[←hcs] at hcl H1 HR HCT
 have HSZ:Hid ((Tryz.prog.info? 180).map (·.size)=some cs.length):=hide (by rw[hcl];exact infoTag)
 have HSZ2:Hid ((Tryz.prog.info? 180).map (·.size)=some cs.toArray.size):=hide (by rw[List.size_toArray,hcl];exact infoTag)
 have HLE:Hid (0+cs.toArray.size≤zTag.length):=hide (by rw[List.size_toArray,hcl,zTag_len];exact Nat.le_refl _)
 have HLA:=hide (laidOver_all zTag cs (by rw[hcl,zTag_len]))
 have HC51:=hide (fun (w3:World) (h:Blk w3 w.heap.size 180 (laidOver zTag 0 cs.toArray.toList))=>(show w3.cell? ⟨w.heap.size,51,none⟩=some (.int .i64 ((m:Nat):Int)) from by
  rw[show cs.toArray.toList=cs from rfl,HLA.out] at h
  exact h.cell HCT.out))
 have HBB:=hide (fun (w3:World) (h:Blk w3 w.heap.size 180 (laidOver zTag 0 cs.toArray.toList))=>(show Blk w3 w.heap.size 180 (tcells R S D m) from by
  rw[show cs.toArray.toList=cs from rfl,HLA.out,HCS.out] at h
  exact h))
 clear hcs HCS HCT hcl HLA
 by_cases hm:m=0
 ·have jm:¬ (0:Int)<(m:Int):=by omega
  have WH2:=hide (WH.out hm)
  clear WH EN EP hm
  go_enter Tryz.func109,Tryz.ntmps109
  go_wp2_with (first | ((with_reducible refine wpList_at (.load 180 (.tmp 7)) rfl ?_);refine wpList_load_mid rfl 180 (.tmp 7) rfl b 0 rfl cs _ HR.out Tryz.underlying180 rfl HSZ.out ?_) | ((with_reducible refine wpList_at (.store 180 (.tmp 3) (.tmp 8)) rfl ?_);refine wpList_store_blk rfl 180 (.tmp 3) (.tmp 8) rfl w.heap.size 0 cs.toArray rfl rfl HSZ2.out (all_oneCell_toArray H1.out) 180 zTag ?_ HLE.out ?_;exact Blk.new rfl rfl;intro w3 hB3 hG3;have c51:=HC51.out w3 hB3) | (with_reducible refine wpList_stop (.load 176 (.tmp 13)) rfl ?_))
  refine hide ?_
  have hB4:=HBB.out _ hB3
  have be4:=((World.grownBy.refl w none).new hG3).none
  have hF:=WH2.out.1
  have hv:=WH2.out.2
  clear WH2 c51 hB3 hG3 HBB HC51 H1 HR HSZ HSZ2 HLE
  obtain ⟨D2,hD2⟩:∃ D2,D2=D:=⟨_,rfl⟩
  obtain ⟨m2,hm2⟩:∃ m2,m2=m:=⟨_,rfl⟩
  rw[←hD2] at hB4 hF hv
  rw[←hm2] at hB4
  obtain ⟨w4,hw4⟩:∃ w4,w4=w3:=⟨_,rfl⟩
  clear hD2 hm2 jm LD
  subst hw4
  have LD2:=hF.1.1
  have hlt4:=hB4.lt
  have hr1:=hB4.range 34 17
  rw[tc_d LR.out LS.out LD2] at hr1
  have HR1:=hide hr1
  have I1:Hid ((Tryz.prog.info? 176).map (·.size)=some (u32V D2).length):=hide (by rw[L17 LD2];exact info17)
  have I2:Hid ((Tryz.prog.info? 176).map (·.size)=some (u32V S).length):=hide (by rw[L17 LS.out];exact info17)
  have LO:=hide (fun w=>leastOf_any D2 w hF)
  rw[hv] at LO
  have HS4:=hide (fun (w':World) (hb:Below w4.heap.size w4 w')=>(show Blk w' w.heap.size 180 (tcells R S D2 m2) from hB4.below hb hlt4))
  have HLD2:=hide LD2
  have HP:=hide (show AC<Pol.P from by rw[←hv];exact Nat.mod_lt _ (by unfold Pol.P;decide))
  clear hr1 hF hv hB4 LD2
  go_wp2_with ((with_reducible refine wpList_at (.load 176 (.tmp 13)) rfl ?_);refine wpList_load_mid rfl 176 (.tmp 13) rfl w.heap.size 34 rfl (u32V D2) (.array 17 150) HR1.out Tryz.underlying176 rfl I1.out ?_)
  refine (LO.out _).mono ?_
  rintro e w5 ⟨⟨c1,rfl,hC1,hv1⟩,hb5⟩
  have be5:=be4.trans (hb5.mono be4.size)
  have hB5:=HS4.out w5 hb5
  have hlt5:=hB5.lt
  have A2:=hide (fun w=>AD.out c1 w hC1 (by rw[hv1];exact HP.out))
  rw[hv1] at A2
  have LC1:=hide (L17 hC1.1)
  have K6:=hide (fun (w6:World) (o:Obj) (h:(w5.alloc o).grownBy w6 (some w5.heap.size))=>(show Blk w6 w.heap.size 180 (tcells R S D2 m2) from (hB5.alloc o).grown h (fun e=>absurd (Option.some.inj e) (by omega))))
  have R6:=hide (fun (w6:World) (o:Obj) (h:(w5.alloc o).grownBy w6 (some w5.heap.size))=>(show w6.rangeAt w.heap.size 17 (u32V S) from by
   have h1:=(K6.out w6 o h).range 17 17
   rw[tc_s LR.out LS.out] at h1
   exact h1))
  clear hC1 hv1 LO HR1 I1 hb5 hB5 be4 HS4 AD HP hlt4
  go_wp2_with (first | ((with_reducible refine wpList_at (.store 176 (.tmp 4) (.tmp 15)) rfl ?_);refine wpList_store_row rfl 176 (.tmp 4) (.tmp 15) rfl (w5.heap.size) rfl 17 info17 (u32V c1) rfl LC1.out (u32V_one _) (u32V (zeros32 17)) 176 ?_ LZ17 ?_;exact Blk.new rfl rfl;intro w6 hB6 hG6;have hr6:=R6.out w6 _ hG6) | ((with_reducible refine wpList_at (.load 176 (.tmp 4)) rfl ?_);refine wpList_load_row rfl 176 (.tmp 4) rfl (w5.heap.size) rfl 17 150 Tryz.underlying176 info17 (u32V c1) 176 hB6 LC1.out ?_) | ((with_reducible refine wpList_at (.load 176 (.tmp 17)) rfl ?_);refine wpList_load_mid rfl 176 (.tmp 17) rfl w.heap.size 17 rfl (u32V S) (.array 17 150) hr6 Tryz.underlying176 rfl I2.out ?_))
  refine (A2.out _).mono ?_
  rintro e w7 ⟨⟨c2,rfl,hC2,hv2⟩,hb7⟩
  have be6:=below_new be5 be5.size hG6
  have be7:=be6.trans (hb7.mono be6.size)
  have LB:=hide (fun w=>lowBytes_any c2 w hC2)
  rw[hv2] at LB
  have LC2:=hide (L17 hC2.1)
  clear hC2 hv2 hb7 be5 be6 A2 hB6 hG6 hr6 R6 K6 I2 hlt5
  go_wp2_with (first | ((with_reducible refine wpList_at (.store 176 (.tmp 5) (.tmp 19)) rfl ?_);refine wpList_store_row rfl 176 (.tmp 5) (.tmp 19) rfl (w7.heap.size) rfl 17 info17 (u32V c2) rfl LC2.out (u32V_one _) (u32V (zeros32 17)) 176 ?_ LZ17 ?_;exact Blk.new rfl rfl;intro w8 hB8 hG8) | ((with_reducible refine wpList_at (.load 176 (.tmp 5)) rfl ?_);refine wpList_load_row rfl 176 (.tmp 5) rfl (w7.heap.size) rfl 17 150 Tryz.underlying176 info17 (u32V c2) 176 hB8 LC2.out ?_))
  refine (LB.out _).mono ?_
  rintro e w9 ⟨rfl,hb9⟩
  have be8:=below_new be7 be7.size hG8
  have be9:=be8.trans (hb9.mono be8.size)
  clear hB8 hG8 be7 be8 hb9 LB
  go_wp2
  go_ret
  exact ⟨rfl,be9⟩
 ·have jm:(0:Int)<(m:Int):=by omega
  have EN2:=hide (EN.out hm)
  clear WH EN hm
  go_enter Tryz.func109,Tryz.ntmps109
  go_wp2_with (first | ((with_reducible refine wpList_at (.load 180 (.tmp 7)) rfl ?_);refine wpList_load_mid rfl 180 (.tmp 7) rfl b 0 rfl cs _ HR.out Tryz.underlying180 rfl HSZ.out ?_) | ((with_reducible refine wpList_at (.store 180 (.tmp 3) (.tmp 8)) rfl ?_);refine wpList_store_blk rfl 180 (.tmp 3) (.tmp 8) rfl w.heap.size 0 cs.toArray rfl rfl HSZ2.out (all_oneCell_toArray H1.out) 180 zTag ?_ HLE.out ?_;exact Blk.new rfl rfl;intro w3 hB3 hG3;have c51:=HC51.out w3 hB3))
  have be3:=((World.grownBy.refl w none).new hG3).none
  have hB3':=HBB.out _ hB3
  refine (EP.out _ hB3').mono ?_
  rintro e w4 ⟨rfl,⟨D2,hF,hv0,hB4⟩,hG4⟩
  have hv:=EN2.out D2 hv0
  have be4:=be3.trans (RowKit.Below.of_grown hG4 (Nat.le_refl _) (Nat.le_of_lt hB3'.lt))
  obtain ⟨m2,hm2⟩:∃ m2,m2=0:=⟨_,rfl⟩
  rw[←hm2] at hB4
  clear c51 hB3 hB3' hG3 HBB HC51 H1 HR HSZ HSZ2 HLE EP EN2 hv0 hG4 be3 hm2 jm LD
  have LD2:=hF.1.1
  have hlt4:=hB4.lt
  have hr1:=hB4.range 34 17
  rw[tc_d LR.out LS.out LD2] at hr1
  have HR1:=hide hr1
  have I1:Hid ((Tryz.prog.info? 176).map (·.size)=some (u32V D2).length):=hide (by rw[L17 LD2];exact info17)
  have I2:Hid ((Tryz.prog.info? 176).map (·.size)=some (u32V S).length):=hide (by rw[L17 LS.out];exact info17)
  have LO:=hide (fun w=>leastOf_any D2 w hF)
  rw[hv] at LO
  have HS4:=hide (fun (w':World) (hb:Below w4.heap.size w4 w')=>(show Blk w' w.heap.size 180 (tcells R S D2 m2) from hB4.below hb hlt4))
  have HLD2:=hide LD2
  have HP:=hide (show AC<Pol.P from by rw[←hv];exact Nat.mod_lt _ (by unfold Pol.P;decide))
  clear hr1 hF hv hB4 LD2
  go_wp2_with ((with_reducible refine wpList_at (.load 176 (.tmp 13)) rfl ?_);refine wpList_load_mid rfl 176 (.tmp 13) rfl w.heap.size 34 rfl (u32V D2) (.array 17 150) HR1.out Tryz.underlying176 rfl I1.out ?_)
  refine (LO.out _).mono ?_
  rintro e w5 ⟨⟨c1,rfl,hC1,hv1⟩,hb5⟩
  have be5:=be4.trans (hb5.mono be4.size)
  have hB5:=HS4.out w5 hb5
  have hlt5:=hB5.lt
  have A2:=hide (fun w=>AD.out c1 w hC1 (by rw[hv1];exact HP.out))
  rw[hv1] at A2
  have LC1:=hide (L17 hC1.1)
  have K6:=hide (fun (w6:World) (o:Obj) (h:(w5.alloc o).grownBy w6 (some w5.heap.size))=>(show Blk w6 w.heap.size 180 (tcells R S D2 m2) from (hB5.alloc o).grown h (fun e=>absurd (Option.some.inj e) (by omega))))
  have R6:=hide (fun (w6:World) (o:Obj) (h:(w5.alloc o).grownBy w6 (some w5.heap.size))=>(show w6.rangeAt w.heap.size 17 (u32V S) from by
   have h1:=(K6.out w6 o h).range 17 17
   rw[tc_s LR.out LS.out] at h1
   exact h1))
  clear hC1 hv1 LO HR1 I1 hb5 hB5 be4 HS4 AD HP hlt4
  go_wp2_with (first | ((with_reducible refine wpList_at (.store 176 (.tmp 4) (.tmp 15)) rfl ?_);refine wpList_store_row rfl 176 (.tmp 4) (.tmp 15) rfl (w5.heap.size) rfl 17 info17 (u32V c1) rfl LC1.out (u32V_one _) (u32V (zeros32 17)) 176 ?_ LZ17 ?_;exact Blk.new rfl rfl;intro w6 hB6 hG6;have hr6:=R6.out w6 _ hG6) | ((with_reducible refine wpList_at (.load 176 (.tmp 4)) rfl ?_);refine wpList_load_row rfl 176 (.tmp 4) rfl (w5.heap.size) rfl 17 150 Tryz.underlying176 info17 (u32V c1) 176 hB6 LC1.out ?_) | ((with_reducible refine wpList_at (.load 176 (.tmp 17)) rfl ?_);refine wpList_load_mid rfl 176 (.tmp 17) rfl w.heap.size 17 rfl (u32V S) (.array 17 150) hr6 Tryz.underlying176 rfl I2.out ?_))
  refine (A2.out _).mono ?_
  rintro e w7 ⟨⟨c2,rfl,hC2,hv2⟩,hb7⟩
  have be6:=below_new be5 be5.size hG6
  have be7:=be6.trans (hb7.mono be6.size)
  have LB:=hide (fun w=>lowBytes_any c2 w hC2)
  rw[hv2] at LB
  have LC2:=hide (L17 hC2.1)
  clear hC2 hv2 hb7 be5 be6 A2 hB6 hG6 hr6 R6 K6 I2 hlt5
  go_wp2_with (first | ((with_reducible refine wpList_at (.store 176 (.tmp 5) (.tmp 19)) rfl ?_);refine wpList_store_row rfl 176 (.tmp 5) (.tmp 19) rfl (w7.heap.size) rfl 17 info17 (u32V c2) rfl LC2.out (u32V_one _) (u32V (zeros32 17)) 176 ?_ LZ17 ?_;exact Blk.new rfl rfl;intro w8 hB8 hG8) | ((with_reducible refine wpList_at (.load 176 (.tmp 5)) rfl ?_);refine wpList_load_row rfl 176 (.tmp 5) rfl (w7.heap.size) rfl 17 150 Tryz.underlying176 info17 (u32V c2) 176 hB8 LC2.out ?_))
  refine (LB.out _).mono ?_
  rintro e w9 ⟨rfl,hb9⟩
  have be8:=below_new be7 be7.size hG8
  have be9:=be8.trans (hb9.mono be8.size)
  clear hB8 hG8 be7 be8 hb9 LB
  go_wp2
  go_ret
  exact ⟨rfl,be9⟩
theorem infoTagZ:(Tryz.prog.info? 180).map (·.zero)=some (some (.agg zTag.toArray)):=by kernel_rfl
theorem placesTag:∃ fs,Tryz.prog.underlying 180=some (.struct fs)∧fs.toList.mapM (fun f=>(Tryz.prog.info? f.type).map fun i=>(f.offset,i.size))=some [(0,17),(17,17),(34,17),(51,1)]:=⟨_,Tryz.underlying180,by kernel_rfl⟩
theorem built_tag (R S:List Nat) (hR:R.length=17) (hS:S.length=17) (w:World):(Instr.build 180 #[(0,.agg (u32V R).toArray),(1,.agg (u32V S).toArray)]).run Tryz.prog w = .ok (.agg (tcells R S (zeros32 17) 0).toArray) w:=by
 refine run_build w 180 _ _ ?_
 obtain ⟨it,hi,hz⟩:=Option.map_eq_some_iff.1 infoTagZ
 obtain ⟨fs,hu,hp⟩:=placesTag
 rw[built_struct hi hu hz hp]
 have h1:laidOver zTag 0 (u32V R)=tcells R (zeros32 17) (zeros32 17) 0:=by
  unfold laidOver zTag tcells
  rw[L17 hR,List.take_zero,List.nil_append,List.append_assoc,List.append_assoc,Nat.zero_add,List.drop_left' LZ17,List.append_assoc,List.append_assoc]
 have h2:laidOver (tcells R (zeros32 17) (zeros32 17) 0) 17 (u32V S)=tcells R S (zeros32 17) 0:=by
  unfold laidOver tcells
  rw[L17 hS,List.append_assoc (u32V R),List.append_assoc (u32V R),List.take_left' (L17 hR),←List.append_assoc (u32V R),←List.append_assoc (u32V R),List.append_assoc (u32V R++u32V (zeros32 17)),List.drop_left' (by rw[List.length_append,L17 hR,LZ17]),List.append_assoc]
  simp
 show Instr.fill _ zTag.toArray [(0,.agg (u32V R).toArray),(1,.agg (u32V S).toArray)]=_
 rw[fill_part _ zTag (u32V R) 0 0 17 _ _ rfl rfl (L17 hR) (by rw[zTag_len];decide),h1,fill_part _ _ (u32V S) 1 17 17 _ _ rfl rfl (L17 hS) (by rw[tc_len hR (zeros32_len 17) (zeros32_len 17)];decide),h2]
 rfl
theorem ext_len (key:ByteArray) (hk:key.size=32):(key.extract 0 16).size=16∧(key.extract 16 key.size).size=16:=by
 rw[ByteArray.size_extract,ByteArray.size_extract];omega
theorem ext_list (key:ByteArray):(key.extract 0 16).data.toList=key.data.toList.take 16∧(key.extract 16 key.size).data.toList=key.data.toList.drop 16:=by
 rw[sub_list,sub_list]
 exact ⟨by rw[List.drop_zero],List.take_of_length_le (by rw[List.length_drop,text_len];omega)⟩
set_option maxRecDepth 100000 in
set_option maxHeartbeats 1600000 in
theorem tbegin_any (key:ByteArray) (w:World) (hk:key.size=32):
  Calls Tryz.prog 105 #[.string key] w fun e w'=>(∃ b,e = .returned (.tuple #[.pointer (some ⟨b,0,none⟩),.int .i64 0])∧w.heap.size≤b ∧
   Blk w' b 180 (tcells (Pol.clL (digitsOf (key.data.toList.take 16)) 16++[0]) (digitsOf (key.data.toList.drop 16)++[0]) (zeros32 17) 0))∧Below w.heap.size w w':=by
 obtain ⟨h1,h2⟩:=ext_len key hk
 obtain ⟨h3,h4⟩:=ext_list key
 have N1:=hide (fun w=>numberOf_any (key.extract 0 16) w h1)
 have N2:=hide (fun w=>numberOf_any (key.extract 16 key.size) w h2)
 rw[h3] at N1
 rw[h4] at N2
 have l1:(digitsOf (key.data.toList.take 16)).length=16:=by rw[digitsOf_len,List.length_take,text_len,hk];rfl
 have l2:(digitsOf (key.data.toList.drop 16)).length=16:=by rw[digitsOf_len,List.length_drop,text_len,hk]
 have CL:=hide (fun w=>clamp_any (digitsOf (key.data.toList.take 16)) w l1 (digitsOf_ok _))
 have l3:(Pol.clL (digitsOf (key.data.toList.take 16)) 16).length=16:=by rw[Pol.clL_len,l1]
 generalize Pol.clL (digitsOf (key.data.toList.take 16)) 16=d3 at *
 generalize digitsOf (key.data.toList.take 16)=d1 at *
 generalize digitsOf (key.data.toList.drop 16)=d2 at *
 have L1:Hid ((u32V (d1++[0])).length=17):=hide (by rw[u32V_len,List.length_append,l1];rfl)
 have L2:Hid ((u32V (d2++[0])).length=17):=hide (by rw[u32V_len,List.length_append,l2];rfl)
 have BD:=hide (built_tag (d3++[0]) (d2++[0]) (by rw[List.length_append,l3];rfl) (by rw[List.length_append,l2];rfl))
 have z1:((key.size:Int) != 32)=false:=by rw[hk];rfl
 have j0:(16:Int)≤(key.size:Int):=by omega
 clear h1 h2 h3 h4 l1 l2 l3 hk
 go_enter Tryz.func105,Tryz.ntmps105
 go_wp2_with fail
 refine (N1.out _).mono ?_
 rintro e w1 ⟨rfl,hb1⟩
 clear N1
 go_wp2_with ((with_reducible refine wpList_at (.store 176 (.tmp 4) (.tmp 11)) rfl ?_);refine wpList_store_row rfl 176 (.tmp 4) (.tmp 11) rfl (w1.heap.size) rfl 17 info17 (u32V (d1++[0])) rfl L1.out (u32V_one _) (u32V (zeros32 17)) 176 ?_ LZ17 ?_;exact Blk.new rfl rfl;intro w2 hB2 hG2)
 have hl1:=hb1.size
 have be2:=below_new hb1 hb1.size hG2
 have hl2:=hB2.lt
 clear hb1 hG2
 refine (N2.out _).mono ?_
 rintro e w3 ⟨rfl,hb3⟩
 clear N2
 have be3:=be2.trans (hb3.mono be2.size)
 have hB3:=hB2.below hb3 hl2
 have hl3:=hb3.size
 clear hb3 be2 hB2
 go_wp2_with ((with_reducible refine wpList_at (.store 176 (.tmp 5) (.tmp 14)) rfl ?_);refine wpList_store_row rfl 176 (.tmp 5) (.tmp 14) rfl (w3.heap.size) rfl 17 info17 (u32V (d2++[0])) rfl L2.out (u32V_one _) (u32V (zeros32 17)) 176 ?_ LZ17 ?_;exact Blk.new rfl rfl;intro w4 hB4 hG4)
 have be4:=below_new be3 be3.size hG4
 have hA4:=(hB3.alloc (.cells (u32V (zeros32 17)).toArray 176)).grown hG4 (fun e=>absurd (Option.some.inj e) (by omega))
 have hl4:=hB4.lt
 have hl5:=hA4.lt
 clear hB3 hG4 be3
 generalize w1.heap.size=g1 at *
 generalize w3.heap.size=g2 at *
 have U1:Tryz.prog.underlying 176=some (.array 17 150):=Tryz.underlying176
 have I1:(Tryz.prog.info? 176).map (·.size)=some (u32V (d1++[0])).length:=by rw[L1.out];exact info17
 have I2:(Tryz.prog.info? 176).map (·.size)=some (u32V (d2++[0])).length:=by rw[L2.out];exact info17
 refine wp_letterA (fun A0 hA0=>?_)
 have f0x4:A0.eval (.tmp 4) = .pointer (some ⟨g1,0,none⟩):=by rw[hA0];rfl
 have f0x5:A0.eval (.tmp 5) = .pointer (some ⟨g2,0,none⟩):=by rw[hA0];rfl
 have z0:A0.tmps.size=20:=by rw[hA0];rfl
 have HA0:=hide hA0
 clear hA0
 refine wp_region_held_drew (S:=fun w'=>w'.rangeAt g1 0 (u32V (d1++[0]))∧w'.rangeAt g2 0 (u32V (d2++[0]))) (by kernel_rfl) (⟨hA4.drew.rangeAll,hB4.drew.rangeAll⟩) (fun hS=>?_)
 refine wpAnyH_take (i:=0) (v:=.agg (u32V (d1++[0])).toArray) rfl (by kernel_rfl) (by kernel_rfl) (by kernel_rfl) (fun _ _ _ h=>h) (yieldsIf_load_mid (by rfl) 176 (.tmp 4) rfl (g1) 0 f0x4 (u32V (d1++[0])) (.array 17 150) (fun w h=>h.1) U1 rfl I1) hS ?_
 change wpAnyH _ _ _ _ _ _ _ (Act.put _ (some 15) _) _
 generalize hA1:Act.put A0 (some 15) _=A1
 have f1x4:A1.eval (.tmp 4) = .pointer (some ⟨g1,0,none⟩):=by rw[←hA1];exact (Act.eval_other _ _ _ _ (by decide)).trans f0x4
 have f1x5:A1.eval (.tmp 5) = .pointer (some ⟨g2,0,none⟩):=by rw[←hA1];exact (Act.eval_other _ _ _ _ (by decide)).trans f0x5
 have f1x15:A1.eval (.tmp 15) = .agg (u32V (d1++[0])).toArray:=by rw[←hA1];exact Act.eval_same _ _ _ (by rw[z0];decide)
 have z1:A1.tmps.size=20:=by rw[←hA1];exact (Act.put_size _ _ _).trans z0
 refine wpAnyH_take (i:=2) (v:=.agg (u32V (d2++[0])).toArray) rfl (by kernel_rfl) (by kernel_rfl) (by kernel_rfl) (fun _ _ _ h=>h) (yieldsIf_load_mid (by rfl) 176 (.tmp 5) rfl (g2) 0 f1x5 (u32V (d2++[0])) (.array 17 150) (fun w h=>h.2) U1 rfl I2) hS ?_
 change wpAnyH _ _ _ _ _ _ _ (Act.put _ (some 17) _) _
 generalize hA2:Act.put A1 (some 17) _=A2
 have f2x5:A2.eval (.tmp 5) = .pointer (some ⟨g2,0,none⟩):=by rw[←hA2];exact (Act.eval_other _ _ _ _ (by decide)).trans f1x5
 have f2x15:A2.eval (.tmp 15) = .agg (u32V (d1++[0])).toArray:=by rw[←hA2];exact (Act.eval_other _ _ _ _ (by decide)).trans f1x15
 have f2x17:A2.eval (.tmp 17) = .agg (u32V (d2++[0])).toArray:=by rw[←hA2];exact Act.eval_same _ _ _ (by rw[z1];decide)
 have z2:A2.tmps.size=20:=by rw[←hA2];exact (Act.put_size _ _ _).trans z1
 refine wpAnyH_ready (rs:=[1]) (by kernel_rfl) (by simp) ?_
 refine AllReadyH.cons rfl (fun K hK=>?_) AllReadyH.nil
 refine step_call rfl 121 #[.tmp 15] _ rfl #[.agg (u32V (d1++[0])).toArray] (by simp[f2x15]) Tryz.call121 ?_
 refine (CL.out _).mono ?_
 rintro e w5 ⟨rfl,hb5⟩
 refine ⟨_,rfl,hK.out _ _ (⟨hS.1.below hb5 hl5,hS.2.below hb5 hl4⟩) (fun hS=>?_)⟩
 clear hK K
 change wpAnyH _ _ _ _ _ _ _ (Act.put _ (some 16) _) _
 generalize hA3:Act.put A2 (some 16) _=A3
 have f3x15:A3.eval (.tmp 15) = .agg (u32V (d1++[0])).toArray:=by rw[←hA3];exact (Act.eval_other _ _ _ _ (by decide)).trans f2x15
 have f3x17:A3.eval (.tmp 17) = .agg (u32V (d2++[0])).toArray:=by rw[←hA3];exact (Act.eval_other _ _ _ _ (by decide)).trans f2x17
 have f3x16:A3.eval (.tmp 16) = .agg (u32V (d3++[0])).toArray:=by rw[←hA3];exact Act.eval_same _ _ _ (by rw[z2];decide)
 have z3:A3.tmps.size=20:=by rw[←hA3];exact (Act.put_size _ _ _).trans z2
 refine wpAnyH_take (i:=3) (v:=.agg (tcells (d3++[0]) (d2++[0]) (zeros32 17) 0).toArray) rfl (by kernel_rfl) (by kernel_rfl) (by kernel_rfl) (fun _ _ _ h=>h) (Yields.yieldsIf (Or.inl ⟨by rfl,fun w=>?_⟩)) hS ?_
 ·exact run_build2 180 (.tmp 16) (.tmp 17) rfl f3x16 f3x17 (BD.out _)
 change wpAnyH _ _ _ _ _ _ _ (Act.put _ (some 18) _) _
 generalize hA4:Act.put A3 (some 18) _=A4
 have f4x17:A4.eval (.tmp 17) = .agg (u32V (d2++[0])).toArray:=by rw[←hA4];exact (Act.eval_other _ _ _ _ (by decide)).trans f3x17
 have f4x16:A4.eval (.tmp 16) = .agg (u32V (d3++[0])).toArray:=by rw[←hA4];exact (Act.eval_other _ _ _ _ (by decide)).trans f3x16
 have f4x18:A4.eval (.tmp 18) = .agg (tcells (d3++[0]) (d2++[0]) (zeros32 17) 0).toArray:=by rw[←hA4];exact Act.eval_same _ _ _ (by rw[z3];decide)
 have z4:A4.tmps.size=20:=by rw[←hA4];exact (Act.put_size _ _ _).trans z3
 refine wpAnyH_ready (rs:=[4]) (by kernel_rfl) (by simp) ?_
 refine AllReadyH.cons rfl (fun K hK=>?_) AllReadyH.nil
 refine step_run rfl (.pointer (some ⟨w5.heap.size,0,none⟩)) (w5.alloc (.cells (tcells (d3++[0]) (d2++[0]) (zeros32 17) 0).toArray 180)) (run_box2 180 (.tmp 18) rfl f4x18) ?_
 refine hK.out _ _ (⟨hS.1.below ((Below.refl _ _).alloc (Nat.le_refl _) _) (Nat.lt_of_lt_of_le hl5 hb5.size),hS.2.below ((Below.refl _ _).alloc (Nat.le_refl _) _) (Nat.lt_of_lt_of_le hl4 hb5.size)⟩) (fun hS=>?_)
 clear hK K
 change wpAnyH _ _ _ _ _ _ _ (Act.put _ (some 19) _) _
 generalize hA5:Act.put A4 (some 19) _=A5
 have f5x18:A5.eval (.tmp 18) = .agg (tcells (d3++[0]) (d2++[0]) (zeros32 17) 0).toArray:=by rw[←hA5];exact (Act.eval_other _ _ _ _ (by decide)).trans f4x18
 have f5x19:A5.eval (.tmp 19) = .pointer (some ⟨w5.heap.size,0,none⟩):=by rw[←hA5];exact Act.eval_same _ _ _ (by rw[z4];decide)
 have z5:A5.tmps.size=20:=by rw[←hA5];exact (Act.put_size _ _ _).trans z4
 refine wpAnyH_take (i:=5) (v:=.pointer (some ⟨w5.heap.size,0,none⟩)) rfl (by kernel_rfl) (by kernel_rfl) (by kernel_rfl) (fun _ _ _ h=>h) (Yields.yieldsIf (Or.inl ⟨by rfl,fun w=>?_⟩)) hS ?_
 ·exact run_assign (.tmp 19) rfl f5x19
 change wpAnyH _ _ _ _ _ _ _ (Act.put _ (some 2) _) _
 generalize hA6:Act.put A5 (some 2) _=A6
 have f6x19:A6.eval (.tmp 19) = .pointer (some ⟨w5.heap.size,0,none⟩):=by rw[←hA6];exact (Act.eval_other _ _ _ _ (by decide)).trans f5x19
 have f6x2:A6.eval (.tmp 2) = .pointer (some ⟨w5.heap.size,0,none⟩):=by rw[←hA6];exact Act.eval_same _ _ _ (by rw[z5];decide)
 have z6:A6.tmps.size=20:=by rw[←hA6];exact (Act.put_size _ _ _).trans z5
 refine wpAnyH_take (i:=6) (v:=.int .i64 0) rfl (by kernel_rfl) (by kernel_rfl) (by kernel_rfl) (fun _ _ _ h=>h) (Yields.yieldsIf (Or.inl ⟨by rfl,fun w=>?_⟩)) hS ?_
 ·exact run_assign (.const (.int .i64 0)) rfl rfl
 change wpAnyH _ _ _ _ _ _ _ (Act.put _ (some 3) _) _
 generalize hA7:Act.put A6 (some 3) _=A7
 have f7x2:A7.eval (.tmp 2) = .pointer (some ⟨w5.heap.size,0,none⟩):=by rw[←hA7];exact (Act.eval_other _ _ _ _ (by decide)).trans f6x2
 have f7x3:A7.eval (.tmp 3) = .int .i64 0:=by rw[←hA7];exact Act.eval_same _ _ _ (by rw[z6];decide)
 have z7:A7.tmps.size=20:=by rw[←hA7];exact (Act.put_size _ _ _).trans z6
 refine wpAnyH_done (by kernel_rfl) ?_ _
 have r2:A7.tmps.getD 2 undef=_:=f7x2
 have r3:A7.tmps.getD 3 undef=_:=f7x3
 subst hA7 hA6 hA5 hA4 hA3 hA2 hA1
 rw[HA0.out]
 rw[HA0.out] at r2 r3
 have R2:=hide r2
 have R3:=hide r3
 clear r2 r3 HA0 z0 hS U1 I1 I2 hA4 hB4
 go_wp2
 refine bodyPost_ret (results_tmp2 rfl _ _ _) rfl ?_
 have hs5:=hb5.size
 have be5:=be4.drew.trans (hb5.mono be4.size)
 exact ⟨⟨w5.heap.size,by rw[R2.out,R3.out],be5.size,Blk.new rfl rfl⟩,be5.alloc be5.size _⟩
namespace Pol
def Rk (key:List UInt8):List Nat:=clL (digitsOf (key.take 16)) 16++[0]
def Sk (key:List UInt8):List Nat:=digitsOf (key.drop 16)++[0]
theorem Rk_len {key:List UInt8} (h:key.length=32):(Rk key).length=17:=by unfold Rk;rw[List.length_append,clL_len,digitsOf_len,List.length_take,h];rfl
theorem Sk_len {key:List UInt8} (h:key.length=32):(Sk key).length=17:=by unfold Sk;rw[List.length_append,digitsOf_len,List.length_drop,h];rfl
theorem Rk_lt (key:List UInt8) (i:Nat):(Rk key).getD i 0<256:=cat0_lt (clL_ok (digitsOf_ok _) 16) i
theorem Sk_lt (key:List UInt8) (i:Nat):(Sk key).getD i 0<256:=cat0_lt (digitsOf_ok _) i
theorem Rk_val (key:List UInt8):Dig.val (Rk key)=rOf key:=val_cat0 _
theorem Sk_val (key:List UInt8):Dig.val (Sk key)=sOf key:=val_cat0 _
end Pol
def TB (w:World) (b:Nat) (key l:List UInt8):Prop:=∃ D,Pol.Sum (Pol.rOf key) l D∧Blk w b 180 (tcells (Pol.Rk key) (Pol.Sk key) D (l.length%16))
theorem TB.lt {w:World} {b:Nat} {key l:List UInt8} (h:TB w b key l):b<w.heap.size:=by
 obtain ⟨_,_,h⟩:=h
 exact h.lt
theorem TB.below {w w':World} {b:Nat} {key l:List UInt8} (h:TB w b key l) {B:Nat} (hb:Below B w w') (hB:b<B):TB w' b key l:=by
 obtain ⟨D,h1,h2⟩:=h
 exact ⟨D,h1,h2.below hb hB⟩
theorem begin_tb (key:ByteArray) (w:World) (hk:key.size=32):
  Calls Tryz.prog 105 #[.string key] w fun e w'=>(∃ b,e = .returned (.tuple #[.pointer (some ⟨b,0,none⟩),.int .i64 0])∧w.heap.size≤b∧TB w' b key.data.toList [])∧Below w.heap.size w w':=by
 refine (tbegin_any key w hk).mono ?_
 rintro e w' ⟨⟨b,rfl,h1,h2⟩,h3⟩
 exact ⟨⟨b,rfl,h1,_,Pol.Sum.start _,h2⟩,h3⟩
theorem write_tb (b:Nat) (key l:List UInt8) (s:ByteArray) (w:World) (hk:key.length=32) (hn:l.length+s.size<2 ^ 62) (h:TB w b key l):
  Calls Tryz.prog 106 #[.pointer (some ⟨b,0,none⟩),.string s] w fun e w'=>e = .returned (.tuple #[])∧TB w' b key (l++s.data.toList)∧w.grownBy w' (some b):=by
 obtain ⟨D,h1,h2⟩:=h
 exact twrite_any b _ _ D _ l s w (Pol.Rk_len hk) (Pol.Sk_len hk) (Pol.Rk_lt key) (Pol.Rk_val key) hn h1 h2
theorem sum_tb (b:Nat) (key l:List UInt8) (w:World) (hk:key.length=32) (h:TB w b key l):
  Calls Tryz.prog 109 #[.pointer (some ⟨b,0,none⟩)] w fun e w'=>e = .returned (.string ⟨(Pol.tag key l).toArray⟩)∧Below w.heap.size w w':=by
 obtain ⟨D,h1,h2⟩:=h
 exact tsum_any b _ _ D _ _ l w (Pol.Rk_len hk) (Pol.Sk_len hk) (Pol.Rk_lt key) (Pol.Sk_lt key) (Pol.Rk_val key) (Pol.Sk_val key) h1 h2
set_option maxRecDepth 100000 in
set_option maxHeartbeats 800000 in
theorem filling_any (n:Nat) (w:World) (hn:n≤1099511627776):
  Calls Tryz.prog 107 #[.int .i64 (n:Nat)] w fun e w'=>e = .returned (.string ⟨(List.replicate (Box.gap n) (0:UInt8)).toArray⟩)∧Below w.heap.size w w':=by
 go_enter Tryz.func107,Tryz.ntmps107
 go_wp2
 go_loopw [3] (fun v wr=>∃ j:Nat,j≤Box.gap n∧Row wr w.heap.size 5 1 v j (u8L (List.replicate j 0))∧Below w.heap.size w wr) (fun v _=>17-vlen v)
 case atStart=>exact ⟨0,Nat.zero_le _,Row.zero (Nat.le_refl _) (Blk.new rfl rfl),(Below.refl w.heap.size w).alloc (Nat.le_refl _) _⟩
 case round=>
  obtain ⟨j,hj,hr,hbe⟩:=hrel
  have hgl:=Box.gap_lt n
  have hsz:=hbe.size
  by_cases hlt:j<Box.gap n
  ·have hne:=Box.gap_more n j hlt
   obtain ⟨ao,cap,rfl,hc1,hc2,_⟩:=Row.strAny hr
   unfold maxLen at hc2
   obtain ⟨X,hX⟩:∃ X:Nat,X=n+j:=⟨_,rfl⟩
   have t0:IntKind.i64.wrap ((n:Int)+(j:Int))=(X:Int):=(IntWalk.i64_in _ (by omega)).trans (by omega)
   have t3:wrap64 ((n:Int)+(j:Int))=(X:Int):=(IntWalk.wrap64_in _ (by omega)).trans (by omega)
   have t4:wrap64 (X:Int)=(X:Int):=IntWalk.wrap64_in _ (by omega)
   have t1:(X:Int).tmod 16=((X%16:Nat):Int):=by rw[Int.tmod_eq_emod_of_nonneg (by omega)];omega
   rw[←hX] at hne
   have t2:(((X%16:Nat):Int) != 0)=true:=by rw[bne_iff_ne];omega
   generalize X%16=Y at *
   have hjb:j<16:=by omega
   have HR:=hide hr
   have HBE:=hide hbe
   clear hX hne hr hbe
   go_wp2_with (at_builtin;refine wpList_append_u8 rfl (.tmp 11) (.tmp 12) rfl w.heap.size _ j _ rfl (HR.out.alloc _) ⟨wr.heap.size,0,none⟩ 1 1 [0] rfl rfl ?_ ?_ ?_ ?_;exact one_news rfl (World.cell?_alloc_at _ _ _ _ rfl);omega;(simp;omega);intro v1 w1 hr1 hg1 hat1)
   go_roundw
   case rel=>
    refine ⟨j+1,by omega,?_,Below.grown (HBE.out.alloc hsz _) hg1 (by simp;omega) (fun k hk=>(HR.out.lt k hk).1)⟩
    rw[←List.replicate_succ'] at hr1
    exact hr1
   case measure=>rw[Row.vlen hr1];simp[vlen];omega
  ·have hjg:j=Box.gap n:=by omega
   have hne:=Box.gap_end n
   rw[←hjg] at hne
   obtain ⟨ao,cap,rfl,hc1,hc2,hcv⟩:=Row.strAny hr
   unfold maxLen at hc2
   obtain ⟨X,hX⟩:∃ X:Nat,X=n+j:=⟨_,rfl⟩
   have t0:IntKind.i64.wrap ((n:Int)+(j:Int))=(X:Int):=(IntWalk.i64_in _ (by omega)).trans (by omega)
   have t3:wrap64 ((n:Int)+(j:Int))=(X:Int):=(IntWalk.wrap64_in _ (by omega)).trans (by omega)
   have t4:wrap64 (X:Int)=(X:Int):=IntWalk.wrap64_in _ (by omega)
   have t1:(X:Int).tmod 16=((X%16:Nat):Int):=by rw[Int.tmod_eq_emod_of_nonneg (by omega)];omega
   rw[←hX] at hne
   rw[hne] at t1
   have HJ:=hide hjg
   have HBE:=hide hbe
   clear hX hne hr hbe hjg hlt hj hgl
   go_wp2
   go_ret
   exact ⟨by rw[←HJ.out,List.toArray_replicate];rfl,HBE.out⟩
theorem shr_byte (n k e:Nat) (he:e=8*k):((n:Int)/2 ^ e%256)=((UInt8.ofNat (n/256 ^ k%256)).toNat:Nat):=by
 rw[ofNat_mod,Nat.mod_mod,Int.natCast_emod,Int.natCast_ediv,Int.natCast_pow,he,Int.pow_mul];rfl
set_option maxRecDepth 100000 in
set_option maxHeartbeats 800000 in
theorem eightBytes_any (n:Nat) (w:World) (hn:n≤1099511627776):
  Calls Tryz.prog 108 #[.int .i64 (n:Nat)] w fun e w'=>e = .returned (.string ⟨(leB n 8).toArray⟩)∧Below w.heap.size w w':=by
 have XS:=hide (leB_succ n)
 have X0:=hide (show leB n 0=[] from rfl)
 have u0:IntKind.u64.wrap (n:Int)=(n:Int):=IntWalk.u64_in _ (by omega)
 have u1:(n:Int)%18446744073709551616=(n:Int):=by omega
 generalize leB n=xl at *
 go_enter Tryz.func108,Tryz.ntmps108
 go_wp2
 go_loopw [3,4] (fun vo vi wr=>∃ i e:Nat,i≤8∧e=8*i∧vi = .int .u32 (e:Nat)∧Row wr w.heap.size 5 1 vo i (u8L (xl i))∧Below w.heap.size w wr) (fun _ i _=>64-(intOf i).toNat)
 case atStart=>exact ⟨0,0,by omega,rfl,rfl,by rw[X0.out];exact Row.zero (Nat.le_refl _) (Blk.new rfl rfl),(Below.refl w.heap.size w).alloc (Nat.le_refl _) _⟩
 case round=>
  obtain ⟨i,e,hi,he,rfl,hrow,hbe⟩:=hrel
  by_cases hlt:i<8
  ·have je:(e:Int)<64:=by omega
   have je2:e<64:=by omega
   have HROW:=hide hrow
   have HBE:=hide hbe
   have hsz:=hbe.size
   have HX:=hide (XS.out i)
   have E8:=hide (shr_byte n i e he)
   have HE:=hide he
   have w0:IntKind.u32.wrap ((e:Int)+8)=(e:Int)+8:=by rw[IntKind.wrap_u32'];omega
   have w1:((e:Int)+8)%4294967296=(e:Int)+8:=by omega
   clear hrow hbe he
   go_wp2_with (at_builtin;refine wpList_append_u8 rfl (.tmp 10) (.tmp 16) rfl w.heap.size _ i _ rfl (HROW.out.alloc _) _ 1 1 [UInt8.ofNat (n/256 ^ i%256)] rfl rfl (one_news E8.out (World.cell?_alloc_at _ _ _ _ rfl)) ?_ ?_ ?_;omega;(simp;omega);intro v1 w5 hr1 hg1 hat1)
   go_roundw
   case rel=>exact ⟨i+1,e+8,by omega,by have:=HE.out;omega,by first | rfl | go_num,by rw[HX.out];exact hr1,Below.grown (HBE.out.alloc hsz _) hg1 (by simp;omega) (fun k hk=>(HROW.out.lt k hk).1)⟩
   case measure=>simp[intOf];omega
  ·obtain rfl:i=8:=by omega
   obtain rfl:e=64:=by omega
   obtain ⟨g4,cap4,rfl,hcv⟩:=Row.str hrow (by omega)
   have HBE:=hide hbe
   clear hrow hbe
   go_wp2
   go_ret
   exact ⟨rfl,HBE.out⟩
theorem blockAns_ok {key nonce:ByteArray} (n:Nat) (hk:key.size=32) (hn:nonce.size=12) (h:n≤4294967295):Cha.blockAns key nonce (n:Int)=(Cha.block key.data.toList nonce.data.toList n,0):=by
 unfold Cha.blockAns
 rw[if_neg (by omega),if_neg (by omega)]
 rfl
theorem laid_eq (aad body:ByteArray):Box.laid aad.data.toList body.data.toList=[]++aad.data.toList++List.replicate (Box.gap aad.size) 0++body.data.toList++List.replicate (Box.gap body.size) 0++leB aad.size 8++leB body.size 8:=by
 unfold Box.laid Box.full
 rw[text_len,text_len]
 simp[List.append_assoc]
theorem gap_size (n:Nat):(⟨(List.replicate (Box.gap n) (0:UInt8)).toArray⟩:ByteArray).size≤16:=by
 rw[two_size,List.length_replicate]
 exact Nat.le_of_lt (Box.gap_lt n)
theorem leB_size (n:Nat):(⟨(leB n 8).toArray⟩:ByteArray).size=8:=by rw[two_size,leB_len]
set_option maxRecDepth 100000 in
set_option maxHeartbeats 1600000 in
theorem tagOf_any (key nonce aad body:ByteArray) (w:World) (hk:key.size=32) (hn:nonce.size=12) (ha:aad.size≤1099511627) (hb:body.size≤1099511627):
  Calls Tryz.prog 69 #[.string key,.string nonce,.string aad,.string body] w fun e w'=>e = .returned (.tuple #[.string ⟨(Box.tag key.data.toList nonce.data.toList aad.data.toList body.data.toList).toArray⟩,.int .i64 0])∧Below w.heap.size w w':=by
 have HB:=hide (fun w=>(show Calls Tryz.prog 104 #[.string key,.string nonce,.int .i64 0] w fun e w'=>e = .returned (.tuple #[.string ⟨(Cha.block key.data.toList nonce.data.toList 0).toArray⟩,.int .i64 0])∧Below w.heap.size w w' from by
  have h:=block_ok key nonce 0 w (by decide) (by decide)
  rw[show (0:Int)=((0:Nat):Int) from rfl,blockAns_ok 0 hk hn (by decide)] at h
  exact h))
 have hbl:(⟨(Cha.block key.data.toList nonce.data.toList 0).toArray⟩:ByteArray).size=64:=by rw[two_size,Cha.block_len]
 have HV:=hide (show Box.tag key.data.toList nonce.data.toList aad.data.toList body.data.toList=Pol.tag ((⟨(Cha.block key.data.toList nonce.data.toList 0).toArray⟩:ByteArray).extract 0 32).data.toList
   ([]++aad.data.toList++(⟨(List.replicate (Box.gap aad.size) (0:UInt8)).toArray⟩:ByteArray).data.toList++body.data.toList++(⟨(List.replicate (Box.gap body.size) (0:UInt8)).toArray⟩:ByteArray).data.toList++(⟨(leB aad.size 8).toArray⟩:ByteArray).data.toList++(⟨(leB body.size 8).toArray⟩:ByteArray).data.toList) by
  unfold Box.tag
  rw[laid_eq,sub_list,two_toList,two_toList,two_toList,two_toList,two_toList]
  rfl)
 have FA:=hide (fun w=>filling_any aad.size w (by omega))
 have FB:=hide (fun w=>filling_any body.size w (by omega))
 have EA:=hide (fun w=>eightBytes_any aad.size w (by omega))
 have EB:=hide (fun w=>eightBytes_any body.size w (by omega))
 have sfa:=gap_size aad.size
 have sfb:=gap_size body.size
 have sea:=leB_size aad.size
 have seb:=leB_size body.size
 generalize (⟨(Cha.block key.data.toList nonce.data.toList 0).toArray⟩:ByteArray)=bl at *
 generalize (⟨(List.replicate (Box.gap aad.size) (0:UInt8)).toArray⟩:ByteArray)=fa at *
 generalize (⟨(List.replicate (Box.gap body.size) (0:UInt8)).toArray⟩:ByteArray)=fb at *
 generalize (⟨(leB aad.size 8).toArray⟩:ByteArray)=la at *
 generalize (⟨(leB body.size 8).toArray⟩:ByteArray)=lb at *
 generalize Box.tag key.data.toList nonce.data.toList aad.data.toList body.data.toList=TG at *
 have h32:(bl.extract 0 32).size=32:=by rw[ByteArray.size_extract];omega
 have HG:=hide (fun w=>begin_tb (bl.extract 0 32) w h32)
 have hkl:(bl.extract 0 32).data.toList.length=32:=by rw[text_len,h32]
 have HW:=hide (fun b l s w h=>write_tb b (bl.extract 0 32).data.toList l s w hkl h)
 have HS:=hide (fun b l w=>sum_tb b (bl.extract 0 32).data.toList l w hkl)
 have j0:(32:Int)≤(bl.size:Int):=by omega
 have b1:([]:List UInt8).length+aad.size<2 ^ 62:=by simp;omega
 have b2:([]++aad.data.toList).length+fa.size<2 ^ 62:=by rw[List.length_append,text_len];simp;omega
 have b3:([]++aad.data.toList++fa.data.toList).length+body.size<2 ^ 62:=by rw[List.length_append,List.length_append,text_len,text_len];simp;omega
 have b4:([]++aad.data.toList++fa.data.toList++body.data.toList).length+fb.size<2 ^ 62:=by rw[List.length_append,List.length_append,List.length_append,text_len,text_len,text_len];simp;omega
 have b5:([]++aad.data.toList++fa.data.toList++body.data.toList++fb.data.toList).length+la.size<2 ^ 62:=by rw[List.length_append,List.length_append,List.length_append,List.length_append,text_len,text_len,text_len,text_len];simp;omega
 have b6:([]++aad.data.toList++fa.data.toList++body.data.toList++fb.data.toList++la.data.toList).length+lb.size<2 ^ 62:=by rw[List.length_append,List.length_append,List.length_append,List.length_append,List.length_append,text_len,text_len,text_len,text_len,text_len];simp;omega
 have W1:=hide (fun b w=>HW.out b [] aad w b1)
 have W2:=hide (fun b w=>HW.out b _ fa w b2)
 have W3:=hide (fun b w=>HW.out b _ body w b3)
 have W4:=hide (fun b w=>HW.out b _ fb w b4)
 have W5:=hide (fun b w=>HW.out b _ la w b5)
 have W6:=hide (fun b w=>HW.out b _ lb w b6)
 have S7:=hide (fun b w=>HS.out b ([]++aad.data.toList++fa.data.toList++body.data.toList++fb.data.toList++la.data.toList++lb.data.toList) w)
 rw[←HV.out] at S7
 clear HW HS HV b1 b2 b3 b4 b5 b6 hk hn ha hb hbl sfa sfb sea seb h32 hkl
 go_enter Tryz.func69,Tryz.ntmps69
 go_wp2_with fail
 refine (HB.out _).mono ?_
 rintro e w1 ⟨rfl,be1⟩
 clear HB
 go_wp2_with fail
 refine (HG.out _).mono ?_
 rintro e w2 ⟨⟨b,rfl,hbb,hT⟩,hb2⟩
 have hw1:=be1.size
 have hbw:w.heap.size≤b:=Nat.le_trans hw1 hbb
 have BE2:=hide (be1.trans (hb2.mono be1.size))
 have HT:=hide hT
 clear HG be1 hb2 hT hbb hw1
 go_wp2_with fail
 refine (W1.out b _ HT.out).mono ?_
 rintro e w3 ⟨rfl,hT,hg⟩
 have BE3:=hide (BE2.out.trans (RowKit.Below.of_grown hg hbw BE2.out.size))
 have HT3:=hide hT
 clear W1 hT hg HT BE2
 go_wp2_with fail
 refine (FA.out _).mono ?_
 rintro e w4 ⟨rfl,hb4⟩
 have BE4:=hide (BE3.out.trans (hb4.mono BE3.out.size))
 have HT4:=hide (HT3.out.below hb4 HT3.out.lt)
 clear FA hb4 HT3 BE3
 go_wp2_with fail
 refine (W2.out b _ HT4.out).mono ?_
 rintro e w5 ⟨rfl,hT,hg⟩
 have BE5:=hide (BE4.out.trans (RowKit.Below.of_grown hg hbw BE4.out.size))
 have HT5:=hide hT
 clear W2 hT hg HT4 BE4
 go_wp2_with fail
 refine (W3.out b _ HT5.out).mono ?_
 rintro e w6 ⟨rfl,hT,hg⟩
 have BE6:=hide (BE5.out.trans (RowKit.Below.of_grown hg hbw BE5.out.size))
 have HT6:=hide hT
 clear W3 hT hg HT5 BE5
 go_wp2_with fail
 refine (FB.out _).mono ?_
 rintro e w7 ⟨rfl,hb7⟩
 have BE7:=hide (BE6.out.trans (hb7.mono BE6.out.size))
 have HT7:=hide (HT6.out.below hb7 HT6.out.lt)
 clear FB hb7 HT6 BE6
 go_wp2_with fail
 refine (W4.out b _ HT7.out).mono ?_
 rintro e w8 ⟨rfl,hT,hg⟩
 have BE8:=hide (BE7.out.trans (RowKit.Below.of_grown hg hbw BE7.out.size))
 have HT8:=hide hT
 clear W4 hT hg HT7 BE7
 go_wp2_with fail
 refine (EA.out _).mono ?_
 rintro e w9 ⟨rfl,hb9⟩
 have BE9:=hide (BE8.out.trans (hb9.mono BE8.out.size))
 have HT9:=hide (HT8.out.below hb9 HT8.out.lt)
 clear EA hb9 HT8 BE8
 go_wp2_with fail
 refine (W5.out b _ HT9.out).mono ?_
 rintro e wA ⟨rfl,hT,hg⟩
 have BEA:=hide (BE9.out.trans (RowKit.Below.of_grown hg hbw BE9.out.size))
 have HTA:=hide hT
 clear W5 hT hg HT9 BE9
 go_wp2_with fail
 refine (EB.out _).mono ?_
 rintro e wB ⟨rfl,hbB⟩
 have BEB:=hide (BEA.out.trans (hbB.mono BEA.out.size))
 have HTB:=hide (HTA.out.below hbB HTA.out.lt)
 clear EB hbB HTA BEA
 go_wp2_with fail
 refine (W6.out b _ HTB.out).mono ?_
 rintro e wC ⟨rfl,hT,hg⟩
 have BEC:=hide (BEB.out.trans (RowKit.Below.of_grown hg hbw BEB.out.size))
 have HTC:=hide hT
 clear W6 hT hg HTB BEB
 go_wp2_with fail
 refine (S7.out b _ HTC.out).mono ?_
 rintro e wD ⟨rfl,hbD⟩
 have BED:=hide (BEC.out.trans (hbD.mono BEC.out.size))
 clear S7 hbD HTC BEC
 go_wp2
 refine bodyPost_ret (results_tmp2 rfl _ _ _) rfl ?_
 exact ⟨rfl,BED.out⟩
end Go.Proofs.YtoifalcpfnacnaaGreatDoor
