import Derived.Test.YtoifalcpfnacnaaGreatDoorBe3
namespace Go.Proofs.YtoifalcpfnacnaaGreatDoor
open Go.RowKit
theorem info17:(Tryz.prog.info? 176).map (·.size)=some 17:=by kernel_rfl
theorem LZ17:(u32V (zeros32 17)).length=17:=(u32V_len _).trans (zeros32_len 17)
theorem L17 {l:List Nat} (h:l.length=17):(u32V l).length=17:=(u32V_len _).trans h
theorem carry_nums (x v:Nat) (hx:x<4278190080) (hv:v<16777216):∃ s y z:Nat,((x:Int)+(v:Int))%4294967296=(s:Int)∧bits .and .u32 (s:Int) 255=(y:Int)∧(s:Int)/256=(z:Int)∧z<16777216∧s<4294967296∧y=(x+v)%256∧z=(x+v)/256:=by
 refine ⟨x+v,(x+v)%256,(x+v)/256,by omega,?_,by omega,by omega,by omega,rfl,rfl⟩
 have h:=u32_and_nat (x+v) 255 (by omega) (by decide)
 rw[Pol.and255] at h
 exact h
set_option maxRecDepth 100000 in
set_option maxHeartbeats 1600000 in
theorem carry_any (l:List Nat) (w:World) (hl:l.length=17) (hd:∀ i,l.getD i 0<4278190080):
  Calls Tryz.prog 132 #[.agg (u32V l).toArray] w fun e w'=>(∃ c,e = .returned (.agg (u32V c).toArray)∧Pol.Car c∧Dig.val c=Dig.val l)∧Below w.heap.size w w':=by
 go_enter Tryz.func132,Tryz.ntmps132
 go_wp2
 go_loopw [3,4] (fun vo vi wr=>∃ (i v:Nat) (c:List Nat),i≤16∧vi = .int .i64 (i:Nat)∧vo = .int .u32 (v:Nat)∧v<16777216∧Pol.Carry l c i v∧Blk wr (w.heap.size) 176 (u32V c)∧Blk wr (w.heap.size+1) 176 (u32V (zeros32 17))∧Below w.heap.size w wr) (fun _ i _=>16-(intOf i).toNat)
 case atStart=>exact ⟨0,0,l,by omega,rfl,rfl,by decide,Pol.Carry.start l hl,(Blk.new rfl rfl).alloc _,Blk.new (by simp) rfl,((Below.refl _ _).alloc (Nat.le_refl _) _).alloc (by simp) _⟩
 case round=>
  obtain ⟨i,v,c,hi,rfl,rfl,hv,hC,hB,hR,hbe⟩:=hrel
  have hcl:=hC.1
  by_cases hlt:i<16
  ·have hci:c.getD i 0<4278190080:=by rw[hC.2.2.2 i (Nat.le_refl _)];exact hd i
   have c0:=hB.cell (u32V_get c i (by omega))
   have f0:=hB.frozen i
   obtain ⟨s,y,z,e1,e2,e3,hz,hs,hy1,hz1⟩:=carry_nums (c.getD i 0) v hci hv
   have hst:=hC.step hlt
   rw[←hy1,←hz1] at hst
   have hB2:=hB.setCell_same i (.int .u32 (y:Nat))
   rw[u32V_put] at hB2
   generalize c.getD i 0=x at *
   have HST:=hide hst
   have HB2:=hide hB2
   have HR:=hide (hR.setCell_other ⟨w.heap.size,i,none⟩ (.int .u32 (y:Nat)) (by first | (simp;done) | (simp;omega)))
   have HBE:=hide (hbe.setCell (p:=⟨w.heap.size,i,none⟩) (Nat.le_refl _) (.int .u32 (y:Nat)))
   have ji:(i:Int)<17:=by omega
   clear hst hB2 hy1 hz1 hC hcl hd hci hB hR hbe hl
   go_wp2
   go_roundw
   case rel=>exact ⟨i+1,z,_,by omega,by go_num,rfl,hz,HST.out,HB2.out,HR.out,HBE.out⟩
   case measure=>simp[intOf];omega
  ·obtain rfl:i=16:=by omega
   have hci:c.getD 16 0<4278190080:=by rw[hC.2.2.2 16 (Nat.le_refl _)];exact hd 16
   have c0:=hB.cell (u32V_get c 16 (by omega))
   have f0:=hB.frozen 16
   obtain ⟨h1,h2⟩:=hC.done
   obtain ⟨s,hs⟩:∃ s:Nat,s=c.getD 16 0+v:=⟨_,rfl⟩
   have e1:((c.getD 16 0:Nat):Int)+(v:Int)=(s:Int):=by omega
   have e2:(s:Int)%4294967296=(s:Int):=by omega
   rw[←hs] at h1 h2
   have hB2:=hB.setCell_same 16 (.int .u32 (s:Nat))
   rw[u32V_put] at hB2
   generalize c.getD 16 0=x at *
   generalize c.set 16 s=c2 at *
   have HB2:=hide hB2
   have HR:=hide (hR.setCell_other ⟨w.heap.size,16,none⟩ (.int .u32 (s:Nat)) (by first | (simp;done) | (simp;omega)))
   have HBE:=hide (hbe.setCell (p:=⟨w.heap.size,16,none⟩) (Nat.le_refl _) (.int .u32 (s:Nat)))
   have HL:=hide (L17 h1.1)
   have H12:=hide (And.intro h1 h2)
   clear h1 h2 hC hcl hd hci hB hR hbe hl hB2 hs hlt hi hv
   go_wp2_with (with_reducible refine wpList_stop (.load 176 (.tmp 1)) rfl ?_)
   refine wpList_letterW (fun w'=>Blk w' (w.heap.size) 176 (u32V c2)∧Blk w' (w.heap.size+1) 176 (u32V (zeros32 17))∧Below w.heap.size w w') ⟨HB2.out,HR.out,HBE.out⟩ ?_
   rintro w1 ⟨hB,hR,hbe⟩
   go_wp2_with (first | ((with_reducible refine wpList_at (.load 176 (.tmp 1)) rfl ?_);refine wpList_load_row rfl 176 (.tmp 1) rfl (w.heap.size) rfl 17 150 Tryz.underlying176 info17 (u32V c2) 176 hB HL.out ?_) | ((with_reducible refine wpList_at (.store 176 (.tmp 2) (.tmp 26)) rfl ?_);refine wpList_store_row rfl 176 (.tmp 2) (.tmp 26) rfl (w.heap.size+1) rfl 17 info17 (u32V c2) rfl HL.out (u32V_one _) (u32V (zeros32 17)) 176 hR LZ17 ?_;intro w9 hB9 hG9))
   exact ret_rowB Tryz.results132 (w.heap.size+1) rfl 17 150 Tryz.underlying176 info17 (u32V c2) 176 hB9 HL.out rfl ⟨⟨_,rfl,H12.out⟩,hbe.trans (RowKit.Below.of_grown hG9 (by omega) hbe.size)⟩
theorem fold_nums (x t:Nat) (hx:x<256) (ht:t≤2147483648):∃ y z p s:Nat,(t:Int)/4=(y:Int)∧bits .and .u32 (t:Int) 3=(z:Int)∧(5*(y:Int))%4294967296=(p:Int)∧((x:Int)+(p:Int))%4294967296=(s:Int)∧y=t/4∧z=t%4∧s=x+5*(t/4):=by
 refine ⟨t/4,t%4,5*(t/4),x+5*(t/4),by omega,?_,by omega,by omega,rfl,rfl,rfl⟩
 have h:=u32_and_nat t 3 (by omega) (by decide)
 rw[Pol.and3] at h
 exact h
theorem Pol.val_le (l:List Nat) (h:∀ i,l.getD i 0≤1073741824):∀ i,Dig.val (l.take i)≤1073741824*256 ^ i
 | 0=>by simp[Dig.val]
 | i+1=>by
  have h1:=Pol.val_le l h i
  have h2:=Nat.mul_le_mul_left (256 ^ i) (h i)
  rw[Dig.val_take,Nat.pow_succ]
  generalize 256 ^ i=p at *
  omega
theorem Pol.top_le {l c:List Nat} (hl:l.length=17) (h:∀ i,l.getD i 0≤1073741824) (hc:Pol.Car c) (hv:Dig.val c=Dig.val l):c.getD 16 0≤2147483648:=by
 rw[hc.top,hv,Pol.val_top hl]
 have h1:=Pol.val_le l h 16
 have h2:=Nat.mul_le_mul_left (256 ^ 16) (h 16)
 refine Nat.le_of_lt_succ ((Nat.div_lt_iff_lt_mul (by decide)).2 ?_)
 have h3:1073741824*256 ^ 16+256 ^ 16*1073741824<2147483649*256 ^ 16:=by decide
 omega
theorem Pol.foldL_at {c:List Nat} (h:Pol.Car c) (ht:c.getD 16 0≤2147483648) (i:Nat):(Pol.foldL c).getD i 0<4278190080:=by
 have h0:=h.2 0 (by decide)
 have hl:=h.1
 unfold Pol.foldL
 rw[getD_set _ _ _ _ (by rw[List.length_set];omega)]
 split
 ·omega
 ·rw[getD_set _ _ _ _ (by omega)]
  split
  ·omega
  ·rcases Nat.lt_or_ge i 16 with h1 | h1
   ·have:=h.2 i h1;omega
   ·rw[List.getD_eq_getElem?_getD,List.getElem?_eq_none (by omega)];decide
set_option maxRecDepth 100000 in
set_option maxHeartbeats 1600000 in
theorem fold_any (l:List Nat) (w:World) (hl:l.length=17) (hd:∀ i,l.getD i 0≤1073741824):
  Calls Tryz.prog 136 #[.agg (u32V l).toArray] w fun e w'=>(∃ c,e = .returned (.agg (u32V c).toArray)∧Pol.Fold c∧Dig.val c%Pol.P=Dig.val l%Pol.P)∧Below w.heap.size w w':=by
 have C1:=hide (fun w=>carry_any l w hl (fun i=>Nat.lt_of_le_of_lt (hd i) (by decide)))
 have HL:=hide (L17 hl)
 have TOP:=hide (fun c=>Pol.top_le (c:=c) hl hd)
 clear hl hd
 go_enter Tryz.func136,Tryz.ntmps136
 go_wp2_with (with_reducible refine wpList_stop (.load 176 (.tmp 1)) rfl ?_)
 refine wpList_letterW (fun w'=>Blk w' (w.heap.size) 176 (u32V l)∧Blk w' (w.heap.size+1) 176 (u32V (zeros32 17))∧Below w.heap.size w w'∧w.heap.size+1<w'.heap.size) ⟨(Blk.new rfl rfl).alloc _,Blk.new (by simp) rfl,((Below.refl _ _).alloc (Nat.le_refl _) _).alloc (by simp) _,by simp⟩ ?_
 rintro w0 ⟨hB0,hZ0,hb0,hs0⟩
 go_wp2_with ((with_reducible refine wpList_at (.load 176 (.tmp 1)) rfl ?_);refine wpList_load_row rfl 176 (.tmp 1) rfl (w.heap.size) rfl 17 150 Tryz.underlying176 info17 (u32V l) 176 hB0 HL.out ?_)
 refine (C1.out _).mono ?_
 rintro e w1 ⟨⟨c,rfl,hC,hv⟩,hb1⟩
 have hB1:=hB0.below hb1 (by omega)
 have hZ1:=hZ0.below hb1 (by omega)
 have hbe1:=hb0.trans (hb1.mono hb0.size)
 have hs1:=hb1.size
 have htop:=TOP.out c hC hv
 have HCL:=hide (L17 hC.1)
 have G0:=u32V_get c 0 (by rw[hC.1];decide)
 have G16:=u32V_get c 16 (by rw[hC.1];decide)
 obtain ⟨y,z,p,s,n1,n2,n3,n4,n5,n6,n7⟩:=fold_nums (c.getD 0 0) (c.getD 16 0) (hC.2 0 (by decide)) htop
 have hfl:Pol.foldL c=(c.set 16 z).set 0 s:=by rw[n6,n7];rfl
 have C2:=hide (fun w=>carry_any (Pol.foldL c) w ((Pol.foldL_len c).trans hC.1) (Pol.foldL_at hC htop))
 have V2:=hide (And.intro (Pol.foldL_lt hC (Nat.lt_of_le_of_lt htop (by decide))) ((Pol.foldL_mod hC.1).trans (by rw[hv])))
 have HFL:=hide hfl
 have HF:=hide (L17 ((Pol.foldL_len c).trans hC.1))
 generalize Pol.foldL c=fl at *
 generalize c.getD 0 0=x at *
 generalize c.getD 16 0=t at *
 clear hC hv htop hfl C1 TOP n5 n6 n7
 go_wp2_with (first | ((with_reducible refine wpList_at (.store 176 (.tmp 1) (.tmp 5)) rfl ?_);refine wpList_store_row rfl 176 (.tmp 1) (.tmp 5) rfl (w.heap.size) rfl 17 info17 (u32V c) rfl HCL.out (u32V_one _) (u32V l) 176 hB1 HL.out ?_;intro w2 hB2 hG2) | (with_reducible refine wpList_stop (.indexAddr 176 (.tmp 1) (.const (.int .i64 16))) rfl ?_))
 refine wpList_letterW (fun w'=>Blk w' (w.heap.size) 176 (u32V c)∧Blk w' (w.heap.size+1) 176 (u32V (zeros32 17))∧Below w.heap.size w w'∧w.heap.size+1<w'.heap.size) ⟨hB2,hZ1.grown hG2 (by first | (simp;done) | (simp;omega)),hbe1.trans (RowKit.Below.of_grown hG2 (Nat.le_refl _) (by omega)),by have:=hG2.size;omega⟩ ?_
 rintro w3 ⟨hB3,hZ3,hb3,hs3⟩
 clear hB0 hZ0 hb0 hs0 hB1 hZ1 hbe1 hs1 hb1 hB2 hG2
 have c16:=hB3.cell G16
 have c0:=hB3.cell G0
 have f:=hB3.frozen
 have hB4:=hB3.setCell_same 16 (.int .u32 (z:Nat))
 rw[u32V_put] at hB4
 have hB5:=hB4.setCell_same 0 (.int .u32 (s:Nat))
 rw[u32V_put,←HFL.out] at hB5
 have f4:=hB4.frozen
 have HB5:=hide hB5
 have HZ5:=hide ((hZ3.setCell_other ⟨w.heap.size,16,none⟩ (.int .u32 (z:Nat)) (by first | (simp;done) | (simp;omega))).setCell_other ⟨w.heap.size,0,none⟩ (.int .u32 (s:Nat)) (by first | (simp;done) | (simp;omega)))
 have HBE5:=hide ((hb3.setCell (p:=⟨w.heap.size,16,none⟩) (Nat.le_refl _) (.int .u32 (z:Nat))).setCell (p:=⟨w.heap.size,0,none⟩) (Nat.le_refl _) (.int .u32 (s:Nat)))
 clear hB5 hB4 hZ3 hb3
 go_wp2_with (with_reducible refine wpList_stop (.load 176 (.tmp 1)) rfl ?_)
 refine wpList_letterW (fun w'=>Blk w' (w.heap.size) 176 (u32V fl)∧Blk w' (w.heap.size+1) 176 (u32V (zeros32 17))∧Below w.heap.size w w'∧w.heap.size+1<w'.heap.size) ⟨HB5.out,HZ5.out,HBE5.out,by simp[World.setCell];omega⟩ ?_
 rintro w6 ⟨hB6,hZ6,hb6,hs6⟩
 clear HB5 HZ5 HBE5 c16 c0 f f4 hB3 hs3
 go_wp2_with ((with_reducible refine wpList_at (.load 176 (.tmp 1)) rfl ?_);refine wpList_load_row rfl 176 (.tmp 1) rfl (w.heap.size) rfl 17 150 Tryz.underlying176 info17 (u32V fl) 176 hB6 HF.out ?_)
 refine (C2.out _).mono ?_
 rintro e w7 ⟨⟨c2,rfl,hC2,hv2⟩,hb7⟩
 have hZ7:=hZ6.below hb7 (by omega)
 have hbe7:=hb6.trans (hb7.mono hb6.size)
 go_wp2_with ((with_reducible refine wpList_at (.store 176 (.tmp 2) (.tmp 20)) rfl ?_);refine wpList_store_row rfl 176 (.tmp 2) (.tmp 20) rfl (w.heap.size+1) rfl 17 info17 (u32V c2) rfl (L17 hC2.1) (u32V_one _) (u32V (zeros32 17)) 176 hZ7 LZ17 ?_;intro w9 hB9 hG9)
 exact ret_rowB Tryz.results136 (w.heap.size+1) rfl 17 150 Tryz.underlying176 info17 (u32V c2) 176 hB9 (L17 hC2.1) rfl ⟨⟨_,rfl,⟨hC2,by rw[hv2];exact V2.out.1⟩,by rw[hv2];exact V2.out.2⟩,hbe7.trans (RowKit.Below.of_grown hG9 (by omega) hbe7.size)⟩
set_option maxRecDepth 100000 in
set_option maxHeartbeats 1600000 in
theorem leastOf_any (l:List Nat) (w:World) (h:Pol.Fold l):
  Calls Tryz.prog 123 #[.agg (u32V l).toArray] w fun e w'=>(∃ c,e = .returned (.agg (u32V c).toArray)∧Pol.Car c∧Dig.val c=Dig.val l%Pol.P)∧Below w.heap.size w w':=by
 have hl:=h.1.1
 have h0:=h.at 0
 obtain ⟨s,hs⟩:∃ s:Nat,s=l.getD 0 0+5:=⟨_,rfl⟩
 have n1:(((l.getD 0 0:Nat):Int)+5)%4294967296=(s:Int):=by omega
 have hml:(l.set 0 s).length=17:=by simpa using hl
 have hmv:Dig.val (l.set 0 s)=Dig.val l+5:=by
  have h1:=Dig.val_put l 0 s (by omega)
  rw[Nat.pow_zero,Nat.one_mul,Nat.one_mul,hs] at h1
  rw[hs]
  omega
 have hmd:∀ i,(l.set 0 s).getD i 0<4278190080:=fun i=>by
  rw[getD_set _ _ _ _ (by omega)]
  split
  ·omega
  ·have:=h.at i;omega
 have C1:=hide (fun w=>carry_any (l.set 0 s) w hml hmd)
 have HL:=hide (L17 hl)
 have HM:=hide (L17 hml)
 have G0:=u32V_get l 0 (by omega)
 have HV:=hide hmv
 have HF:=hide h
 clear hml hmv hmd hl h hs h0
 generalize l.getD 0 0=x at *
 go_enter Tryz.func123,Tryz.ntmps123
 go_wp2_with (with_reducible refine wpList_stop (.load 176 (.tmp 1)) rfl ?_)
 refine wpList_letterW (fun w'=>Blk w' (w.heap.size) 176 (u32V l)∧Blk w' (w.heap.size+1) 176 (u32V (zeros32 17))∧Below w.heap.size w w'∧w'.heap.size=w.heap.size+1+1) ⟨(Blk.new rfl rfl).alloc _,Blk.new (by simp) rfl,((Below.refl _ _).alloc (Nat.le_refl _) _).alloc (by simp) _,by simp⟩ ?_
 rintro w0 ⟨hB0,hZ0,hb0,hs0⟩
 go_wp2_with (first | ((with_reducible refine wpList_at (.load 176 (.tmp 1)) rfl ?_);refine wpList_load_row rfl 176 (.tmp 1) rfl (w.heap.size) rfl 17 150 Tryz.underlying176 info17 (u32V l) 176 hB0 HL.out ?_) | (with_reducible refine wpList_stop (.store 176 (.tmp 3) (.tmp 4)) rfl ?_))
 refine wpList_letterW (fun w'=>Blk w' (w.heap.size) 176 (u32V l)∧Blk w' (w.heap.size+1) 176 (u32V (zeros32 17))∧Blk w' (w.heap.size+1+1) 176 (u32V (zeros32 17))∧Below w.heap.size w w'∧w.heap.size+1+1<w'.heap.size) ⟨hB0.alloc _,hZ0.alloc _,Blk.new hs0.symm rfl,hb0.alloc (by omega) _,by simp;omega⟩ ?_
 rintro w1 ⟨hB1,hZ1,hM1,hb1,hs1⟩
 clear hB0 hZ0 hb0 hs0
 go_wp2_with (first | ((with_reducible refine wpList_at (.store 176 (.tmp 3) (.tmp 4)) rfl ?_);refine wpList_store_row rfl 176 (.tmp 3) (.tmp 4) rfl (w.heap.size+1+1) rfl 17 info17 (u32V l) rfl HL.out (u32V_one _) (u32V (zeros32 17)) 176 hM1 LZ17 ?_;intro w2 hM2 hG2) | (with_reducible refine wpList_stop (.indexAddr 176 (.tmp 3) (.const (.int .i64 0))) rfl ?_))
 refine wpList_letterW (fun w'=>Blk w' (w.heap.size) 176 (u32V l)∧Blk w' (w.heap.size+1) 176 (u32V (zeros32 17))∧Blk w' (w.heap.size+1+1) 176 (u32V l)∧Below w.heap.size w w'∧w.heap.size+1+1<w'.heap.size) ⟨hB1.grown hG2 (by first | (simp;done) | (simp;omega)),hZ1.grown hG2 (by first | (simp;done) | (simp;omega)),hM2,hb1.trans (RowKit.Below.of_grown hG2 (by omega) (by omega)),by have:=hG2.size;omega⟩ ?_
 rintro w3 ⟨hB3,hZ3,hM3,hb3,hs3⟩
 clear hB1 hZ1 hM1 hb1 hs1 hM2 hG2
 have c0:=hM3.cell G0
 have f:=hM3.frozen 0
 have hM4:=hM3.setCell_same 0 (.int .u32 (s:Nat))
 rw[u32V_put] at hM4
 have HM4:=hide hM4
 have HB4:=hide (hB3.setCell_other ⟨w.heap.size+1+1,0,none⟩ (.int .u32 (s:Nat)) (by first | (simp;done) | (simp;omega)))
 have HZ4:=hide (hZ3.setCell_other ⟨w.heap.size+1+1,0,none⟩ (.int .u32 (s:Nat)) (by first | (simp;done) | (simp;omega)))
 have HBE4:=hide (hb3.setCell (p:=⟨w.heap.size+1+1,0,none⟩) (by simp;omega) (.int .u32 (s:Nat)))
 generalize l.set 0 s=m at *
 clear hM4 hB3 hZ3 hb3 hM3
 go_wp2_with (with_reducible refine wpList_stop (.load 176 (.tmp 3)) rfl ?_)
 refine wpList_letterW (fun w'=>Blk w' (w.heap.size) 176 (u32V l)∧Blk w' (w.heap.size+1) 176 (u32V (zeros32 17))∧Blk w' (w.heap.size+1+1) 176 (u32V m)∧Below w.heap.size w w'∧w.heap.size+1+1<w'.heap.size) ⟨HB4.out,HZ4.out,HM4.out,HBE4.out,by simp[World.setCell];omega⟩ ?_
 rintro w5 ⟨hB5,hZ5,hM5,hb5,hs5⟩
 clear HB4 HZ4 HM4 HBE4 c0 f hs3
 go_wp2_with ((with_reducible refine wpList_at (.load 176 (.tmp 3)) rfl ?_);refine wpList_load_row rfl 176 (.tmp 3) rfl (w.heap.size+1+1) rfl 17 150 Tryz.underlying176 info17 (u32V m) 176 hM5 HM.out ?_)
 refine (C1.out _).mono ?_
 rintro e w6 ⟨⟨c,rfl,hC,hv⟩,hb6⟩
 have hB6:=hB5.below hb6 (by omega)
 have hZ6:=hZ5.below hb6 (by omega)
 have hM6:=hM5.below hb6 (by omega)
 have hbe6:=hb5.trans (hb6.mono hb5.size)
 have hs6:w.heap.size+1+1<w6.heap.size:=Nat.lt_of_lt_of_le hs5 hb6.size
 have LT:=hide (fun h=>Pol.least_lt hC (hv.trans HV.out) h)
 have GE:=hide (fun h=>Pol.least_ge HF.out hC (hv.trans HV.out) h)
 have hcl:=hC.1
 have HC:=hide hC
 have G16:=u32V_get c 16 (by omega)
 have HCL:=hide (L17 hcl)
 have ht:c.getD 16 0<4294967296:=by
  rw[hC.top,hv]
  refine (Nat.div_lt_iff_lt_mul (by decide)).2 (Nat.lt_of_le_of_lt (Nat.le_of_eq HV.out) ?_)
  have:=HF.out.2
  have h2:2*Pol.P+5<4294967296*256 ^ 16:=by unfold Pol.P;decide
  omega
 clear hB5 hZ5 hM5 hb5 hs5 hb6 hC hv C1 hcl
 generalize hst:c.getD 16 0=t at *
 have HST:=hide hst
 clear hst
 go_wp2_with (first | ((with_reducible refine wpList_at (.store 176 (.tmp 3) (.tmp 10)) rfl ?_);refine wpList_store_row rfl 176 (.tmp 3) (.tmp 10) rfl (w.heap.size+1+1) rfl 17 info17 (u32V c) rfl HCL.out (u32V_one _) (u32V m) 176 hM6 HM.out ?_;intro w7 hM7 hG7) | (with_reducible refine wpList_stop (.indexAddr 176 (.tmp 3) (.const (.int .i64 16))) rfl ?_))
 refine wpList_letterW (fun w'=>Blk w' (w.heap.size) 176 (u32V l)∧Blk w' (w.heap.size+1) 176 (u32V (zeros32 17))∧Blk w' (w.heap.size+1+1) 176 (u32V c)∧Below w.heap.size w w'∧w.heap.size+1+1<w'.heap.size) ⟨hB6.grown hG7 (by first | (simp;done) | (simp;omega)),hZ6.grown hG7 (by first | (simp;done) | (simp;omega)),hM7,hbe6.trans (RowKit.Below.of_grown hG7 (by omega) (by omega)),by have:=hG7.size;omega⟩ ?_
 rintro w8 ⟨hB8,hZ8,hM8,hb8,hs8⟩
 clear hB6 hZ6 hM6 hbe6 hs6 hM7 hG7
 have c16:=hM8.cell G16
 by_cases h4:t<4
 ·have j4:(t:Int)<4:=by omega
  have hfin:=LT.out h4
  have HFIN:=hide (And.intro HF.out.1 hfin)
  clear hfin LT GE
  go_wp2_with (first | ((with_reducible refine wpList_at (.load 176 (.tmp 1)) rfl ?_);refine wpList_load_row rfl 176 (.tmp 1) rfl (w.heap.size) rfl 17 150 Tryz.underlying176 info17 (u32V l) 176 hB8 HL.out ?_) | ((with_reducible refine wpList_at (.store 176 (.tmp 2) (.tmp 14)) rfl ?_);refine wpList_store_row rfl 176 (.tmp 2) (.tmp 14) rfl (w.heap.size+1) rfl 17 info17 (u32V l) rfl HL.out (u32V_one _) (u32V (zeros32 17)) 176 hZ8 LZ17 ?_;intro w9 hB9 hG9))
  exact ret_rowB Tryz.results123 (w.heap.size+1) rfl 17 150 Tryz.underlying176 info17 (u32V l) 176 hB9 HL.out rfl ⟨⟨_,rfl,HFIN.out⟩,hb8.trans (RowKit.Below.of_grown hG9 (by omega) hb8.size)⟩
 ·obtain ⟨q,hq⟩:∃ q:Nat,q=t-4:=⟨_,rfl⟩
  have j4:¬ (t:Int)<4:=by omega
  have n2:((t:Int)-4)%4294967296=(q:Int):=by omega
  have n3:(t:Int)-4=(q:Int):=by omega
  have hfin:=GE.out h4
  rw[←hq] at hfin
  have f:=hM8.frozen 16
  have hM9:=hM8.setCell_same 16 (.int .u32 (q:Nat))
  rw[u32V_put] at hM9
  have HQL:=hide (L17 hfin.1.1)
  have HFIN:=hide hfin
  have HM9:=hide hM9
  have HZ9:=hide (hZ8.setCell_other ⟨w.heap.size+1+1,16,none⟩ (.int .u32 (q:Nat)) (by first | (simp;done) | (simp;omega)))
  have HBE9:=hide (hb8.setCell (p:=⟨w.heap.size+1+1,16,none⟩) (by simp;omega) (.int .u32 (q:Nat)))
  generalize c.set 16 q=c2 at *
  clear hfin LT GE hM9 hq h4 hZ8 hb8 hB8
  go_wp2_with (with_reducible refine wpList_stop (.load 176 (.tmp 3)) rfl ?_)
  refine wpList_letterW (fun w'=>Blk w' (w.heap.size+1) 176 (u32V (zeros32 17))∧Blk w' (w.heap.size+1+1) 176 (u32V c2)∧Below w.heap.size w w') ⟨HZ9.out,HM9.out,HBE9.out⟩ ?_
  rintro wA ⟨hZA,hMA,hbA⟩
  go_wp2_with (first | ((with_reducible refine wpList_at (.load 176 (.tmp 3)) rfl ?_);refine wpList_load_row rfl 176 (.tmp 3) rfl (w.heap.size+1+1) rfl 17 150 Tryz.underlying176 info17 (u32V c2) 176 hMA HQL.out ?_) | ((with_reducible refine wpList_at (.store 176 (.tmp 2) (.tmp 19)) rfl ?_);refine wpList_store_row rfl 176 (.tmp 2) (.tmp 19) rfl (w.heap.size+1) rfl 17 info17 (u32V c2) rfl HQL.out (u32V_one _) (u32V (zeros32 17)) 176 hZA LZ17 ?_;intro wB hBB hGB))
  exact ret_rowB Tryz.results123 (w.heap.size+1) rfl 17 150 Tryz.underlying176 info17 (u32V c2) 176 hBB HQL.out rfl ⟨⟨_,rfl,HFIN.out⟩,hbA.trans (RowKit.Below.of_grown hGB (by omega) hbA.size)⟩
theorem times_nums1 (X x y:Nat) (hX:X≤700000000) (hx:x<512) (hy:y<256):∃ Y:Nat,Y=X+x*y∧((X:Int)+(x:Int)*(y:Int))%4294967296=(Y:Int)∧(X:Int)+(x:Int)*(y:Int)=(Y:Int)∧(Y:Int)%4294967296=(Y:Int):=by
 have h1:x*y≤130305:=Nat.le_trans (Nat.mul_le_mul (show x≤511 by omega) (show y≤255 by omega)) (by decide)
 have h2:((x:Int)*(y:Int))=((x*y:Nat):Int):=(Int.natCast_mul x y).symm
 rw[h2]
 generalize x*y=q at *
 exact ⟨X+q,rfl,by omega,by omega,by omega⟩
theorem times_nums2 (X x y:Nat) (hX:X≤700000000) (hx:x<512) (hy:y<256):∃ Y p:Nat,Y=X+320*(x*y)∧(320*(x:Int))%4294967296=(p:Int)∧((X:Int)+(p:Int)*(y:Int))%4294967296=(Y:Int)∧(X:Int)+(p:Int)*(y:Int)=(Y:Int)∧(Y:Int)%4294967296=(Y:Int):=by
 have h1:x*y≤130305:=Nat.le_trans (Nat.mul_le_mul (show x≤511 by omega) (show y≤255 by omega)) (by decide)
 have h2:((320*x:Nat):Int)*(y:Int)=((320*(x*y):Nat):Int):=by rw[←Int.natCast_mul,Nat.mul_assoc]
 refine ⟨X+320*(x*y),320*x,rfl,by omega,?_,?_,by omega⟩
 ·rw[h2];omega
 ·rw[h2];omega
theorem conv_zero (a b:List Nat) (i:Nat):Pol.conv a b i+320*Pol.wrapc a b i 0=sm (i+1) (fun j=>a.getD j 0*b.getD (i-j) 0):=by
 rw[show Pol.wrapc a b i 0=0 from rfl,Nat.mul_zero,Nat.add_zero]
 rfl
theorem wrapc_succ (a b:List Nat) (i q:Nat):Pol.wrapc a b i (q+1)=Pol.wrapc a b i q+a.getD (i+1+q) 0*b.getD (16-q) 0:=rfl
theorem conv_bound {c k i q:Nat} (h1:c≤(i+1)*130305) (h2:k≤q*130305) (hi:i<17) (hq:q≤16):c+320*k≤700000000:=by omega
theorem wrap_nums (i j q:Nat) (hi:i<17) (hj:j<17) (h:j=i+1+q):∃ k s:Nat,k=16-q∧k<17∧IntKind.i64.wrap (17+(i:Int))=(s:Int)∧wrap64 (17+(i:Int))=(s:Int)∧IntKind.i64.wrap ((s:Int)-(j:Int))=(k:Int)∧wrap64 ((s:Int)-(j:Int))=(k:Int):=by
 refine ⟨16-q,17+i,rfl,by omega,?_,?_,?_,?_⟩
 ·exact (IntWalk.i64_in _ (by omega)).trans (by omega)
 ·exact (IntWalk.wrap64_in _ (by omega)).trans (by omega)
 ·exact (IntWalk.i64_in _ (by omega)).trans (by omega)
 ·exact (IntWalk.wrap64_in _ (by omega)).trans (by omega)
theorem set_again (o:List Nat) (i x y:Nat):(o.set i x).set i y=o.set i y:=by simp
set_option maxRecDepth 100000 in
set_option maxHeartbeats 4000000 in
theorem times_any (a b:List Nat) (w:World) (ha:a.length=17) (hb:b.length=17) (hda:∀ i,a.getD i 0<512) (hdb:∀ i,b.getD i 0<256):
  Calls Tryz.prog 131 #[.agg (u32V a).toArray,.agg (u32V b).toArray] w fun e w'=>(∃ c,e = .returned (.agg (u32V c).toArray)∧Pol.Fold c∧Dig.val c%Pol.P=Dig.val a*Dig.val b%Pol.P)∧Below w.heap.size w w':=by
 have DA:=hide hda
 have DB:=hide hdb
 have CL:=hide (fun i=>Pol.conv_le a b i hda hdb)
 have WL:=hide (fun i=>Pol.wrapc_le a b i hda hdb)
 have MV:=hide (fun l=>Pol.mulD_val a b l (by omega) (by omega))
 have AG:=hide (fun j (hj:j<17)=>u32V_get a j (by omega))
 have BG:=hide (fun j (hj:j<17)=>u32V_get b j (by omega))
 clear hda hdb ha hb
 go_enter Tryz.func131,Tryz.ntmps131
 go_wp2
 go_loopw [6] (fun vi wr=>∃ (i:Nat) (o:List Nat),i≤17∧vi = .int .i64 (i:Nat)∧o.length=17∧(∀ j,o.getD j 0=if j<i then Pol.mulD a b j else 0)∧Blk wr (w.heap.size) 176 (u32V a)∧Blk wr (w.heap.size+1) 176 (u32V b)∧Blk wr (w.heap.size+1+1) 176 (u32V (zeros32 17))∧Blk wr (w.heap.size+1+1+1) 176 (u32V o)∧Below w.heap.size w wr) (fun i _=>17-(intOf i).toNat)
 case atStart=>
  refine ⟨0,zeros32 17,by omega,rfl,zeros32_len 17,(fun j=>?_),(((Blk.new rfl rfl).alloc _).alloc _).alloc _,((Blk.new (by simp) rfl).alloc _).alloc _,(Blk.new (by simp) rfl).alloc _,Blk.new (by simp) rfl,((((Below.refl _ _).alloc (Nat.le_refl _) _).alloc (by simp) _).alloc (by simp;omega) _).alloc (by simp;omega) _⟩
  rw[if_neg (by omega),List.getD_eq_getElem?_getD,zeros32,List.getElem?_replicate]
  split <;> rfl
 case round=>
  obtain ⟨i,o,hi,rfl,hol,hO,hA,hB,hR,hW,hbe⟩:=hrel
  by_cases hlt:i<17
  ·have ji:(i:Int)<17:=by omega
   have hoi:o.set i 0=o:=list_getD (by simp) fun j hj=>by
    rw[getD_set _ _ _ _ (by omega)]
    split
    ·rename_i h;subst h;rw[hO,if_neg (by omega)]
    ·rfl
   have HO:=hide hO
   have HOL:=hide hol
   have HOI:=hide hoi
   have HW0:=hide (show Blk wr (w.heap.size+1+1+1) 176 (u32V (o.set i (0))) by rw[hoi];exact hW)
   have HA0:=hide hA
   have HB0:=hide hB
   have HR0:=hide hR
   have HBE0:=hide hbe
   clear hO hoi hW hA hB hR hbe
   go_wp2
   go_loopw [7] (fun vj wr=>∃ j:Nat,j≤i+1∧vj = .int .i64 (j:Nat)∧Blk wr (w.heap.size) 176 (u32V a)∧Blk wr (w.heap.size+1) 176 (u32V b)∧Blk wr (w.heap.size+1+1) 176 (u32V (zeros32 17))∧Blk wr (w.heap.size+1+1+1) 176 (u32V (o.set i (sm j (fun j=>a.getD j 0*b.getD (i-j) 0))))∧Below w.heap.size w wr) (fun j _=>i+1-(intOf j).toNat)
   case atStart=>exact ⟨0,by omega,rfl,HA0.out,HB0.out,HR0.out,HW0.out,HBE0.out⟩
   case round=>
    clear HW0 HA0 HB0 HR0 HBE0
    obtain ⟨j,hj,rfl,hA,hB,hR,hW,hbe⟩:=hrel
    by_cases hlj:j≤i
    ·obtain ⟨k,hk⟩:∃ k:Nat,k=i-j:=⟨_,rfl⟩
     have q1:IntKind.i64.wrap ((i:Int)-(j:Int))=(k:Int):=(IntWalk.i64_in _ (by omega)).trans (by omega)
     have q2:wrap64 ((i:Int)-(j:Int))=(k:Int):=(IntWalk.wrap64_in _ (by omega)).trans (by omega)
     have c0:=hW.cell (u32V_get (o.set i (sm j (fun j=>a.getD j 0*b.getD (i-j) 0))) i (by rw[List.length_set];omega))
     rw[getD_set _ _ _ _ (by omega),if_pos rfl] at c0
     have c1:=hA.cell (AG.out j (by omega))
     have c2:=hB.cell (BG.out k (by omega))
     have f0:=hW.frozen i
     obtain ⟨Y,hY,n1,n2,n3⟩:=times_nums1 (sm j (fun j=>a.getD j 0*b.getD (i-j) 0)) (a.getD j 0) (b.getD k 0) (Nat.le_trans (CL.out i j) (by omega)) (DA.out j) (DB.out k)
     have hY2:Y=sm (j+1) (fun j=>a.getD j 0*b.getD (i-j) 0):=by rw[hY,hk];rfl
     have hW2:=hW.setCell_same i (.int .u32 (Y:Nat))
     rw[u32V_put,set_again,hY2] at hW2
     rw[←hY2] at hW2
     have HW2:=hide hW2
     have HY2:=hide hY2
     have HA:=hide (hA.setCell_other ⟨w.heap.size+1+1+1,i,none⟩ (.int .u32 (Y:Nat)) (by first | (simp;done) | (simp;omega)))
     have HB:=hide (hB.setCell_other ⟨w.heap.size+1+1+1,i,none⟩ (.int .u32 (Y:Nat)) (by first | (simp;done) | (simp;omega)))
     have HR:=hide (hR.setCell_other ⟨w.heap.size+1+1+1,i,none⟩ (.int .u32 (Y:Nat)) (by first | (simp;done) | (simp;omega)))
     have HBE:=hide (hbe.setCell (p:=⟨w.heap.size+1+1+1,i,none⟩) (by simp;omega) (.int .u32 (Y:Nat)))
     have jj:(j:Int)≤(i:Int):=by omega
     have j17:(j:Int)<17:=by omega
     have jk:(k:Int)<17:=by omega
     generalize sm j (fun j=>a.getD j 0*b.getD (i-j) 0)=X at *
     generalize a.getD j 0=x at *
     generalize b.getD k 0=y at *
     clear hW2 hY hY2 hk hA hB hR hW hbe
     go_wp2
     go_region
     go_wp2
     go_roundw
     case rel=>exact ⟨j+1,by omega,by go_num,HA.out,HB.out,HR.out,by rw[←HY2.out];exact HW2.out,HBE.out.drew⟩
     case measure=>simp[intOf];omega
    ·obtain rfl:j=i+1:=by omega
     have jj:¬ ((i+1:Nat):Int)≤(i:Int):=by omega
     have jj2:¬ (i:Int)+1≤(i:Int):=by omega
     have HW0:=hide (show Blk wr (w.heap.size+1+1+1) 176 (u32V (o.set i (Pol.conv a b i+320*Pol.wrapc a b i 0))) by rw[conv_zero];exact hW)
     have HA0:=hide hA
     have HB0:=hide hB
     have HR0:=hide hR
     have HBE0:=hide hbe
     clear hW hA hB hR hbe
     go_wp2
     go_loopw [8] (fun vj wr=>∃ q j:Nat,j=i+1+q∧q≤16-i∧vj = .int .i64 (j:Nat)∧Blk wr (w.heap.size) 176 (u32V a)∧Blk wr (w.heap.size+1) 176 (u32V b)∧Blk wr (w.heap.size+1+1) 176 (u32V (zeros32 17))∧Blk wr (w.heap.size+1+1+1) 176 (u32V (o.set i (Pol.conv a b i+320*Pol.wrapc a b i q)))∧Below w.heap.size w wr) (fun j _=>17-(intOf j).toNat)
     case atStart=>exact ⟨0,i+1,by omega,by omega,by go_num,HA0.out,HB0.out,HR0.out,HW0.out,HBE0.out⟩
     case round=>
      clear HW0 HA0 HB0 HR0 HBE0 jj jj2 hj hlj
      obtain ⟨q,j,hjq,hq,rfl,hA,hB,hR,hW,hbe⟩:=hrel
      by_cases hlj:j<17
      ·obtain ⟨k,s,hk,hk17,q0,q3,q1,q2⟩:=wrap_nums i j q hlt hlj hjq
       have c0:=hW.cell (u32V_get (o.set i (Pol.conv a b i+320*Pol.wrapc a b i q)) i (by rw[List.length_set];omega))
       rw[getD_set _ _ _ _ (by omega),if_pos rfl] at c0
       have c1:=hA.cell (AG.out j hlj)
       have c2:=hB.cell (BG.out k hk17)
       have f0:=hW.frozen i
       have hbd:Pol.conv a b i+320*Pol.wrapc a b i q≤700000000:=by
        exact conv_bound (CL.out i (i+1)) (WL.out i q) hlt (Nat.le_trans hq (Nat.sub_le _ _))
       obtain ⟨Y,p0,hY,n0,n1,n2,n3⟩:=times_nums2 (Pol.conv a b i+320*Pol.wrapc a b i q) (a.getD j 0) (b.getD k 0) hbd (DA.out j) (DB.out k)
       have hY2:Y=Pol.conv a b i+320*Pol.wrapc a b i (q+1):=by
        rw[hY,hjq,hk,wrapc_succ,Nat.mul_add,Nat.add_assoc]
       have hW2:=hW.setCell_same i (.int .u32 (Y:Nat))
       rw[u32V_put,set_again] at hW2
       have HW2:=hide hW2
       have HY2:=hide hY2
       have HA:=hide (hA.setCell_other ⟨w.heap.size+1+1+1,i,none⟩ (.int .u32 (Y:Nat)) (by first | (simp;done) | (simp;omega)))
       have HB:=hide (hB.setCell_other ⟨w.heap.size+1+1+1,i,none⟩ (.int .u32 (Y:Nat)) (by first | (simp;done) | (simp;omega)))
       have HR:=hide (hR.setCell_other ⟨w.heap.size+1+1+1,i,none⟩ (.int .u32 (Y:Nat)) (by first | (simp;done) | (simp;omega)))
       have HBE:=hide (hbe.setCell (p:=⟨w.heap.size+1+1+1,i,none⟩) (by simp;omega) (.int .u32 (Y:Nat)))
       have j17:(j:Int)<17:=by omega
       have jk:(k:Int)<17:=by omega
       have HJQ:=hide hjq
       generalize Pol.conv a b i+320*Pol.wrapc a b i q=X at *
       generalize a.getD j 0=x at *
       generalize b.getD k 0=y at *
       clear hW2 hY hY2 hk hA hB hR hW hbe hbd hjq
       go_wp2
       go_region
       go_wp2
       go_roundw
       case rel=>exact ⟨q+1,j+1,by have:=HJQ.out;omega,by have:=HJQ.out;omega,by go_num,HA.out,HB.out,HR.out,by rw[←HY2.out];exact HW2.out,HBE.out.drew⟩
       case measure=>simp[intOf];omega
      ·obtain rfl:q=16-i:=by omega
       have hO2:∀ p,(o.set i (Pol.mulD a b i)).getD p 0=if p<i+1 then Pol.mulD a b p else 0:=fun p=>by
        rw[getD_set _ _ _ _ (by have:=HOL.out;omega),HO.out p]
        by_cases he:p=i
        ·subst he;rw[if_pos rfl,if_pos (by omega)]
        ·rw[if_neg he]
         by_cases h1:p<i
         ·rw[if_pos h1,if_pos (by omega)]
         ·rw[if_neg h1,if_neg (by omega)]
       have HO2:=hide hO2
       have HL2:=hide (show (o.set i (Pol.mulD a b i)).length=17 by have:=HOL.out;simpa using this)
       have HW2:=hide (show Blk wr (w.heap.size+1+1+1) 176 (u32V (o.set i (Pol.mulD a b i))) from hW)
       generalize o.set i (Pol.mulD a b i)=o2 at *
       have HA:=hide hA
       have HB:=hide hB
       have HR:=hide hR
       have HBE:=hide hbe
       have j17:¬ (j:Int)<17:=by omega
       clear hO2 hA hB hR hW hbe hjq hq
       go_wp2
       go_roundw
       case rel=>exact ⟨i+1,o2,by omega,by go_num,HL2.out,HO2.out,HA.out,HB.out,HR.out,HW2.out,HBE.out⟩
       case measure=>simp[intOf];omega
  ·obtain rfl:i=17:=by omega
   have hv:=MV.out o hol (fun j hj=>by rw[hO,if_pos hj])
   have hd:∀ j,o.getD j 0≤1073741824:=fun j=>by
    rw[hO]
    split
    ·exact Nat.le_trans (conv_bound (CL.out j (j+1)) (WL.out j (16-j)) (by assumption) (by omega)) (by decide)
    ·decide
   have C1:=hide (fun w=>fold_any o w hol hd)
   rw[hv] at C1
   have HCL:=hide (L17 hol)
   clear hO hv hd CL WL MV AG BG DA DB
   go_wp2_with ((with_reducible refine wpList_at (.load 176 (.tmp 5)) rfl ?_);refine wpList_load_row rfl 176 (.tmp 5) rfl (w.heap.size+1+1+1) rfl 17 150 Tryz.underlying176 info17 (u32V o) 176 hW HCL.out ?_)
   refine (C1.out _).mono ?_
   rintro e w7 ⟨⟨c2,rfl,hC2,hv2⟩,hb7⟩
   have hZ7:=hR.below hb7 hR.lt
   have hbe7:=hbe.trans (hb7.mono hbe.size)
   go_wp2_with ((with_reducible refine wpList_at (.store 176 (.tmp 4) (.tmp 55)) rfl ?_);refine wpList_store_row rfl 176 (.tmp 4) (.tmp 55) rfl (w.heap.size+1+1) rfl 17 info17 (u32V c2) rfl (L17 hC2.1.1) (u32V_one _) (u32V (zeros32 17)) 176 hZ7 LZ17 ?_;intro w9 hB9 hG9)
   exact ret_rowB Tryz.results131 (w.heap.size+1+1) rfl 17 150 Tryz.underlying176 info17 (u32V c2) 176 hB9 (L17 hC2.1.1) rfl ⟨⟨_,rfl,hC2,hv2⟩,hbe7.trans (RowKit.Below.of_grown hG9 (by omega) hbe7.size)⟩
theorem take_digit (s:ByteArray) (i:Nat) (h:i<s.size):digitsOf (s.data.toList.take (i+1))=digitsOf (s.data.toList.take i)++[s[i].toNat]:=by
 rw[List.take_succ_eq_append_getElem (by rw[text_len];exact h),digitsOf,digitsOf,List.map_append,Array.getElem_toList]
 rfl
theorem take_digits_len (s:ByteArray) (i:Nat) (h:i≤s.size):(digitsOf (s.data.toList.take i)).length=i:=by
 rw[digitsOf_len,List.length_take,text_len];omega
set_option maxRecDepth 100000 in
set_option maxHeartbeats 1600000 in
theorem numberOf_any (s:ByteArray) (w:World) (hs:s.size=16):
  Calls Tryz.prog 120 #[.string s] w fun e w'=>e = .returned (.agg (u32V (digitsOf s.data.toList++[0])).toArray)∧Below w.heap.size w w':=by
 have hall:digitsOf (s.data.toList.take 16)++zeros32 1=digitsOf s.data.toList++[0]:=by rw[List.take_of_length_le (by rw[text_len];omega)];rfl
 have hlen:(digitsOf (s.data.toList.take 16)++zeros32 1).length=17:=by rw[List.length_append,take_digits_len s 16 (by omega)];rfl
 have HA:=hide hall
 have HL:=hide (L17 hlen)
 clear hall hlen
 go_enter Tryz.func120,Tryz.ntmps120
 go_wp2
 go_loopw [4] (fun vi wr=>∃ i:Nat,i≤16∧vi = .int .i64 (i:Nat)∧Blk wr (w.heap.size) 176 (u32V (zeros32 17))∧Blk wr (w.heap.size+1) 176 (u32V (digitsOf (s.data.toList.take i)++zeros32 (17-i)))∧Below w.heap.size w wr) (fun i _=>16-(intOf i).toNat)
 case atStart=>exact ⟨0,by omega,rfl,(Blk.new rfl rfl).alloc _,Blk.new (by simp) rfl,((Below.refl _ _).alloc (Nat.le_refl _) _).alloc (by simp) _⟩
 case round=>
  obtain ⟨i,hi,rfl,hR,hB,hbe⟩:=hrel
  by_cases hlt:i<16
  ·have i1:i<s.size:=by omega
   have hB2:=hB.setCell_same i (.int .u32 ((s[i].toNat:Nat):Int))
   rw[u32V_set _ _ _ _ (take_digits_len s i (by omega)) (by omega),←take_digit s i i1,show 17-i-1=17-(i+1) by omega] at hB2
   have c0:=hB.cell (u32V_new (digitsOf (s.data.toList.take i)) (17-i) i (take_digits_len s i (by omega)) (by omega))
   have f0:=hB.frozen i
   have hx:=UInt8.toNat_lt s[i]
   have HB2:=hide hB2
   have HR:=hide (hR.setCell_other ⟨w.heap.size+1,i,none⟩ (.int .u32 ((s[i].toNat:Nat):Int)) (by first | (simp;done) | (simp;omega)))
   have HBE:=hide (hbe.setCell (p:=⟨w.heap.size+1,i,none⟩) (by simp) (.int .u32 ((s[i].toNat:Nat):Int)))
   have e0:((s[i].toNat:Nat):Int)%4294967296=((s[i].toNat:Nat):Int):=by omega
   clear hx
   have js:(i:Int)<(s.size:Int):=by omega
   have j16:(i:Int)<16:=by omega
   have j17:(i:Int)<17:=by omega
   clear hB2 hB hR hbe hs
   go_wp2
   go_roundw
   case rel=>exact ⟨i+1,by omega,by go_num,HR.out,HB2.out,HBE.out⟩
   case measure=>simp[intOf];omega
  ·obtain rfl:i=16:=by omega
   have js:¬ (16:Int)<(s.size:Int):=by omega
   have HB:=hide hB
   have HR:=hide hR
   have HBE:=hide hbe
   clear hB hR hbe
   go_wp2_with (first | ((with_reducible refine wpList_at (.load 176 (.tmp 3)) rfl ?_);refine wpList_load_row rfl 176 (.tmp 3) rfl (w.heap.size+1) rfl 17 150 Tryz.underlying176 info17 (u32V (digitsOf (s.data.toList.take 16)++zeros32 1)) 176 HB.out HL.out ?_) | ((with_reducible refine wpList_at (.store 176 (.tmp 2) (.tmp 21)) rfl ?_);refine wpList_store_row rfl 176 (.tmp 2) (.tmp 21) rfl (w.heap.size) rfl 17 info17 (u32V (digitsOf (s.data.toList.take 16)++zeros32 1)) rfl HL.out (u32V_one _) (u32V (zeros32 17)) 176 HR.out LZ17 ?_;intro w9 hB9 hG9))
   exact ret_rowB Tryz.results120 (w.heap.size) rfl 17 150 Tryz.underlying176 info17 (u32V (digitsOf (s.data.toList.take 16)++zeros32 1)) 176 hB9 HL.out rfl ⟨by rw[←HA.out],HBE.out.trans (RowKit.Below.of_grown hG9 (Nat.le_refl _) HBE.out.size)⟩
theorem clamp_nums (x:Nat) (h:x<256):bits .and .u32 (x:Int) 15=((x%16:Nat):Int)∧bits .and .u32 (x:Int) 252=((x-x%4:Nat):Int):=by
 have h1:=u32_and_nat x 15 (by omega) (by decide)
 have h2:=u32_and_nat x 252 (by omega) (by decide)
 rw[Pol.and15] at h1
 rw[Pol.and252 x h] at h2
 exact ⟨h1,h2⟩
theorem cat0_lt {l:List Nat} (h:Dig.Ok l) (i:Nat):(l++[0]).getD i 0<256:=by
 rw[Pol.cat0_getD];exact h.at i
set_option maxRecDepth 100000 in
set_option maxHeartbeats 1600000 in
theorem clamp_any (l:List Nat) (w:World) (hl:l.length=16) (hd:Dig.Ok l):
  Calls Tryz.prog 121 #[.agg (u32V (l++[0])).toArray] w fun e w'=>e = .returned (.agg (u32V (Pol.clL l 16++[0])).toArray)∧Below w.heap.size w w':=by
 have hl17:(l++[0]).length=17:=by simp[hl]
 have hLT:=cat0_lt hd
 have DONE:=hide (fun c i=>Pol.Cl2.done (c:=c) (i:=i) hl)
 have h16:(l++[0]).getD 16 0=0:=by rw[Pol.cat0_getD,List.getD_eq_getElem?_getD,List.getElem?_eq_none (by omega)];rfl
 generalize l++[0]=d at *
 go_enter Tryz.func121,Tryz.ntmps121
 go_wp2
 go_loopw [3] (fun vi wr=>∃ (i:Nat) (c:List Nat),i≤19∧i%4=3∧vi = .int .i64 (i:Nat)∧Pol.Cl1 d c i∧Blk wr (w.heap.size) 176 (u32V c)∧Blk wr (w.heap.size+1) 176 (u32V (zeros32 17))∧Below w.heap.size w wr) (fun i _=>19-(intOf i).toNat)
 case atStart=>exact ⟨3,d,by omega,rfl,rfl,Pol.Cl1.start d hl17,(Blk.new rfl rfl).alloc _,Blk.new (by simp) rfl,((Below.refl _ _).alloc (Nat.le_refl _) _).alloc (by simp) _⟩
 case round=>
  obtain ⟨i,c,hi,hm,rfl,hC,hB,hR,hbe⟩:=hrel
  have hcl:=hC.1
  by_cases hlt:i<16
  ·have c0:=hB.cell (u32V_get c i (by omega))
   rw[hC.at] at c0
   have f0:=hB.frozen i
   have n1:=(clamp_nums (d.getD i 0) (hLT i)).1
   have hst:=hC.step hm hlt
   have hB2:=hB.setCell_same i (.int .u32 ((d.getD i 0%16:Nat):Int))
   rw[u32V_put] at hB2
   generalize d.getD i 0%16=y at *
   generalize d.getD i 0=x at *
   have HST:=hide hst
   have HB2:=hide hB2
   have HR:=hide (hR.setCell_other ⟨w.heap.size,i,none⟩ (.int .u32 (y:Nat)) (by first | (simp;done) | (simp;omega)))
   have HBE:=hide (hbe.setCell (p:=⟨w.heap.size,i,none⟩) (Nat.le_refl _) (.int .u32 (y:Nat)))
   have ji:(i:Int)<17:=by omega
   have jj:(i:Int)<16:=by omega
   have HM:=hide hm
   clear hst hB2 hC hcl hB hR hbe hl17 hLT h16 hm hd hl
   go_wp2
   go_roundw
   case rel=>exact ⟨i+4,_,by have:=HM.out;omega,by have:=HM.out;omega,by go_num,HST.out,HB2.out,HR.out,HBE.out⟩
   case measure=>simp[intOf];omega
  ·have hC2:=hC.done (by omega)
   have ht:c.getD 16 0=0:=by rw[hC.2,if_neg (by omega),h16]
   have jj:¬ (i:Int)<16:=by omega
   have HC2:=hide hC2
   have HT:=hide ht
   have HB:=hide hB
   have HR:=hide hR
   have HBE:=hide hbe
   clear hC2 ht hB hR hbe hC hm
   go_wp2
   go_loopw [4] (fun vi wr=>∃ (i:Nat) (c:List Nat),i≤16∧i%4=0∧4≤i∧vi = .int .i64 (i:Nat)∧Pol.Cl2 d c i∧c.getD 16 0=0∧Blk wr (w.heap.size) 176 (u32V c)∧Blk wr (w.heap.size+1) 176 (u32V (zeros32 17))∧Below w.heap.size w wr) (fun i _=>16-(intOf i).toNat)
   case atStart=>exact ⟨4,c,by omega,rfl,by omega,rfl,HC2.out,HT.out,HB.out,HR.out,HBE.out⟩
   case round=>
    clear HC2 HT HB HR HBE hcl hlt hi jj
    obtain ⟨i,c,hi,hm,h4,rfl,hC,ht,hB,hR,hbe⟩:=hrel
    have hcl:=hC.1
    by_cases hlt:i<16
    ·have c0:=hB.cell (u32V_get c i (by omega))
     rw[hC.at hm hlt] at c0
     have f0:=hB.frozen i
     have n1:=(clamp_nums (d.getD i 0) (hLT i)).2
     have hst:=hC.step hm (by omega) hlt
     have ht2:(c.set i (d.getD i 0-d.getD i 0%4)).getD 16 0=0:=by rw[getD_set _ _ _ _ (by omega),if_neg (by omega)];exact ht
     have hB2:=hB.setCell_same i (.int .u32 ((d.getD i 0-d.getD i 0%4:Nat):Int))
     rw[u32V_put] at hB2
     generalize d.getD i 0-d.getD i 0%4=y at *
     generalize d.getD i 0=x at *
     have HST:=hide (And.intro hst ht2)
     have HB2:=hide hB2
     have HR:=hide (hR.setCell_other ⟨w.heap.size,i,none⟩ (.int .u32 (y:Nat)) (by first | (simp;done) | (simp;omega)))
     have HBE:=hide (hbe.setCell (p:=⟨w.heap.size,i,none⟩) (Nat.le_refl _) (.int .u32 (y:Nat)))
     have ji:(i:Int)<17:=by omega
     have jj:(i:Int)<16:=by omega
     have HM:=hide (And.intro hm h4)
     clear hst ht2 hB2 hC hcl hB hR hbe hl17 hLT h16 hm hd hl ht h4
     go_wp2
     go_roundw
     case rel=>exact ⟨i+4,_,by have:=HM.out;omega,by have:=HM.out;omega,by omega,by go_num,HST.out.1,HST.out.2,HB2.out,HR.out,HBE.out⟩
     case measure=>simp[intOf];omega
    ·have hfin:=DONE.out c i hC (by omega) ht
     have HL:=hide (L17 hcl)
     have jj:¬ (i:Int)<16:=by omega
     have HFIN:=hide hfin
     clear hfin DONE ht hm
     go_wp2_with (first | ((with_reducible refine wpList_at (.load 176 (.tmp 1)) rfl ?_);refine wpList_load_row rfl 176 (.tmp 1) rfl (w.heap.size) rfl 17 150 Tryz.underlying176 info17 (u32V c) 176 hB HL.out ?_) | ((with_reducible refine wpList_at (.store 176 (.tmp 2) (.tmp 23)) rfl ?_);refine wpList_store_row rfl 176 (.tmp 2) (.tmp 23) rfl (w.heap.size+1) rfl 17 info17 (u32V c) rfl HL.out (u32V_one _) (u32V (zeros32 17)) 176 hR LZ17 ?_;intro w9 hB9 hG9))
     exact ret_rowB Tryz.results121 (w.heap.size+1) rfl 17 150 Tryz.underlying176 info17 (u32V c) 176 hB9 HL.out rfl ⟨by rw[←HFIN.out],hbe.trans (RowKit.Below.of_grown hG9 (by omega) hbe.size)⟩
set_option maxRecDepth 100000 in
set_option maxHeartbeats 1600000 in
theorem lowBytes_any (l:List Nat) (w:World) (h:Pol.Car l):
  Calls Tryz.prog 125 #[.agg (u32V l).toArray] w fun e w'=>e = .returned (.string ⟨(leB (Dig.val l) 16).toArray⟩)∧Below w.heap.size w w':=by
 have XS:=hide (leB_succ (Dig.val l))
 have X0:=hide (show leB (Dig.val l) 0=[] from rfl)
 have DG:=hide (fun i hi=>h.digit i hi)
 have HH:=hide h
 have hl:=h.1
 generalize leB (Dig.val l)=xl at *
 clear h
 go_enter Tryz.func125,Tryz.ntmps125
 go_wp2
 refine wp_letterW (fun w'=>Blk w' w.heap.size 176 (u32V l)∧Blk w' (w.heap.size+1) 5 []∧Below w.heap.size w w'∧w.heap.size+1<w'.heap.size) ⟨(Blk.new rfl rfl).alloc _,Blk.new (by simp) rfl,((Below.refl _ _).alloc (Nat.le_refl _) _).alloc (by simp) _,by simp⟩ ?_
 rintro wb ⟨hB,hE,hbw,hsw⟩
 have HB:=hide hB
 have HBW:=hide hbw
 have HE:=hide hE
 clear hB hbw hE
 go_loopw [3,4] (fun vo vi wr=>∃ i:Nat,i≤16∧vi = .int .i64 (i:Nat)∧Row wr (w.heap.size+1) 5 1 vo i (u8L (xl i))∧Below (w.heap.size+1) wb wr) (fun _ i _=>16-(intOf i).toNat)
 case atStart=>exact ⟨0,by omega,rfl,by rw[X0.out];exact Row.zero (Nat.le_refl _) HE.out,Below.refl _ _⟩
 case round=>
  obtain ⟨i,hi,rfl,hrow,hbe⟩:=hrel
  have hsz:w.heap.size+1≤wr.heap.size:=Nat.le_trans (Nat.le_of_lt hsw) hbe.size
  by_cases hlt:i<16
  ·have hx:=HH.out.2 i hlt
   have hB2:=HB.out.below hbe (by omega)
   have c0:=hB2.cell (u32V_get l i (by omega))
   have hdg:=DG.out i hlt
   generalize l.getD i 0=x at *
   obtain ⟨y,hy⟩:∃ y:UInt8,y=UInt8.ofNat x:=⟨_,rfl⟩
   have e0:(x:Int)%256=((y.toNat:Nat):Int):=by rw[hy,UInt8.toNat_ofNat'];omega
   have hx2:xl (i+1)=xl i++[y]:=by rw[XS.out,←hdg,hy]
   have HX2:=hide hx2
   have HROW:=hide hrow
   have HBE:=hide hbe
   have jj:(i:Int)<16:=by omega
   have j17:(i:Int)<17:=by omega
   clear hx2 hdg hy hrow hbe hx hB2
   go_wp2_with (at_builtin;refine wpList_append_u8 rfl (.tmp 10) (.tmp 15) rfl (w.heap.size+1) _ i _ rfl (HROW.out.alloc _) ⟨wr.heap.size,0,none⟩ 1 1 [y] rfl rfl (one_news rfl (World.cell?_alloc_at _ _ _ _ rfl)) ?_ ?_ ?_;omega;(simp;omega);intro v1 w5 hr1 hg1 hat1)
   go_roundw
   case rel=>
    refine ⟨i+1,by omega,by go_num,by rw[HX2.out];exact hr1,?_⟩
    exact Below.grown (HBE.out.alloc hsz _) hg1 (by simp;omega) (fun k hk=>(HROW.out.lt k hk).1)
   case measure=>simp[intOf];omega
  ·obtain rfl:i=16:=by omega
   obtain ⟨ao,cap,rfl,hc1,hc2,hcv⟩:=Row.strAny hrow
   have HBE:=hide (HBW.out.trans (hbe.mono (Nat.le_succ _)))
   clear hrow hbe hc1 hc2
   go_wp2
   go_ret
   exact ⟨rfl,HBE.out⟩
set_option maxRecDepth 100000 in
set_option maxHeartbeats 1600000 in
theorem add_any (a b:List Nat) (w:World) (ha:a.length=17) (hb:b.length=17) (hda:∀ i,a.getD i 0<1073741824) (hdb:∀ i,b.getD i 0<1073741824):
  Calls Tryz.prog 124 #[.agg (u32V a).toArray,.agg (u32V b).toArray] w fun e w'=>(∃ c,e = .returned (.agg (u32V c).toArray)∧Pol.Car c∧Dig.val c=Dig.val a+Dig.val b)∧Below w.heap.size w w':=by
 have HBL:=hide (L17 hb)
 go_enter Tryz.func124,Tryz.ntmps124
 go_wp2
 go_loopw [5] (fun vi wr=>∃ (i:Nat) (c:List Nat),i≤17∧vi = .int .i64 (i:Nat)∧c.length=17∧(∀ j,c.getD j 0=if j<i then a.getD j 0+b.getD j 0 else a.getD j 0)∧Blk wr (w.heap.size) 176 (u32V c)∧Blk wr (w.heap.size+1) 176 (u32V b)∧Blk wr (w.heap.size+1+1) 176 (u32V (zeros32 17))∧Below w.heap.size w wr) (fun i _=>17-(intOf i).toNat)
 case atStart=>exact ⟨0,a,by omega,rfl,ha,(fun j=>by rw[if_neg (by omega)]),((Blk.new rfl rfl).alloc _).alloc _,(Blk.new (by simp) rfl).alloc _,Blk.new (by simp) rfl,(((Below.refl _ _).alloc (Nat.le_refl _) _).alloc (by simp) _).alloc (by simp;omega) _⟩
 case round=>
  obtain ⟨i,c,hi,rfl,hcl,hC,hA,hB,hR,hbe⟩:=hrel
  by_cases hlt:i<17
  ·have c0:=hA.cell (u32V_get c i (by omega))
   have c1:=hB.cell (u32V_get b i (by omega))
   have hci:c.getD i 0=a.getD i 0:=by rw[hC,if_neg (by omega)]
   rw[hci] at c0
   have f0:=hA.frozen i
   have x1:=hda i
   have x2:=hdb i
   obtain ⟨s,hs⟩:∃ s:Nat,s=a.getD i 0+b.getD i 0:=⟨_,rfl⟩
   have n1:(((a.getD i 0:Nat):Int)+((b.getD i 0:Nat):Int))%4294967296=(s:Int):=by omega
   have hC2:∀ j,(c.set i s).getD j 0=if j<i+1 then a.getD j 0+b.getD j 0 else a.getD j 0:=fun j=>by
    rw[getD_set _ _ _ _ (by omega),hC j]
    by_cases he:j=i
    ·subst he;rw[if_pos rfl,if_pos (by omega),hs]
    ·rw[if_neg he]
     by_cases h1:j<i
     ·rw[if_pos h1,if_pos (by omega)]
     ·rw[if_neg h1,if_neg (by omega)]
   have hB2:=hA.setCell_same i (.int .u32 (s:Nat))
   rw[u32V_put] at hB2
   have HC2:=hide hC2
   have HCL:=hide (show (c.set i s).length=17 by simpa using hcl)
   have HB2:=hide hB2
   have HBB:=hide (hB.setCell_other ⟨w.heap.size,i,none⟩ (.int .u32 (s:Nat)) (by first | (simp;done) | (simp;omega)))
   have HR:=hide (hR.setCell_other ⟨w.heap.size,i,none⟩ (.int .u32 (s:Nat)) (by first | (simp;done) | (simp;omega)))
   have HBE:=hide (hbe.setCell (p:=⟨w.heap.size,i,none⟩) (Nat.le_refl _) (.int .u32 (s:Nat)))
   clear hC2 hC hci hs hB2 hR hbe hcl x1 x2
   generalize c.set i s=c2 at *
   generalize a.getD i 0=x at *
   generalize b.getD i 0=y at *
   have ji:(i:Int)<17:=by omega
   clear hda hdb
   go_wp2
   go_region
   go_wp2
   go_roundw
   case rel=>exact ⟨i+1,c2,by omega,by go_num,HCL.out,HC2.out,HB2.out,HBB.out,HR.out,HBE.out.drew⟩
   case measure=>simp[intOf];omega
  ·obtain rfl:i=17:=by omega
   have hv:=Pol.sum_val a b c (by omega) (by omega) hcl (fun j hj=>by rw[hC,if_pos hj])
   have hd:∀ j,c.getD j 0<4278190080:=fun j=>by
    have:=hda j
    have:=hdb j
    rw[hC]
    split <;> omega
   have C1:=hide (fun w=>carry_any c w hcl hd)
   rw[hv] at C1
   have HCL:=hide (L17 hcl)
   clear hC hv hd hda hdb
   go_wp2_with ((with_reducible refine wpList_at (.load 176 (.tmp 2)) rfl ?_);refine wpList_load_row rfl 176 (.tmp 2) rfl (w.heap.size) rfl 17 150 Tryz.underlying176 info17 (u32V c) 176 hA HCL.out ?_)
   refine (C1.out _).mono ?_
   rintro e w7 ⟨⟨c2,rfl,hC2,hv2⟩,hb7⟩
   have hZ7:=hR.below hb7 hR.lt
   have hbe7:=hbe.trans (hb7.mono hbe.size)
   go_wp2_with ((with_reducible refine wpList_at (.store 176 (.tmp 4) (.tmp 19)) rfl ?_);refine wpList_store_row rfl 176 (.tmp 4) (.tmp 19) rfl (w.heap.size+1+1) rfl 17 info17 (u32V c2) rfl (L17 hC2.1) (u32V_one _) (u32V (zeros32 17)) 176 hZ7 LZ17 ?_;intro w9 hB9 hG9)
   exact ret_rowB Tryz.results124 (w.heap.size+1+1) rfl 17 150 Tryz.underlying176 info17 (u32V c2) 176 hB9 (L17 hC2.1) rfl ⟨⟨_,rfl,hC2,hv2⟩,hbe7.trans (RowKit.Below.of_grown hG9 (by omega) hbe7.size)⟩
theorem World.grownBy.own {a w w':World} {b:Nat} {row:Option Nat} (h:a.grownBy w (some b)) (k:w.grownBy w' row) (hr:∀ x,row=some x→a.heap.size≤x):a.grownBy w' (some b):=
 ⟨k.os.trans h.os,k.tape.trans h.tape,k.output.trans h.output,Nat.le_trans h.size k.size,fun i hi hne=>by
  rw[k.block i (Nat.lt_of_lt_of_le hi h.size) (fun e=>absurd (hr i e.symm) (by omega))]
  exact h.block i hi hne⟩
theorem wp_letterA {P:Program} {c:Code} {Q:Exit→Act→World→Prop} {a:Act} {w:World} (h:∀ A:Act,A=a→c.wp P Q A w):c.wp P Q a w:=h a rfl
theorem step_call {P:Program} {ops:Array Oper} {o:Oper} {a:Act} {w:World} {K:Act→World→Prop} {Q:Exit→Act→World→Prop} {E:Prop} (hg:o.guard=none) (f:FuncId) (xs:Array Operand) (ats:Array TypeId)
  (ho:o.op = .call { callee:=.value (.func f),args:=xs,argTypes:=ats }) (us:Array Value) (hx:xs.map a.eval=us) (hc:∀ args w,(callFunc f args).run P w = .ok (.enter f args) w)
  (h:Calls P f us w fun e w'=>∃ r,e = .returned r∧K (a.put o.dst r) w'):if Region.wanted o (yielded ops a.tmps)=true then Oper.wp P o a w K Q else E:=by
 rw[if_pos (by simp[Region.wanted,hg])]
 have e:(execOp a.eval o).run P w = .ok (.enter f us) w:=by
  unfold execOp
  simp[ho,resolve,invoke,hx,hc,Act.eval,Deferred.ofValue]
 unfold Oper.wp
 rw[e,Oper.upon_enter]
 exact h.mono (by rintro e w' ⟨r,rfl,hk⟩;exact hk)
theorem tc_len {R S D:List Nat} {m:Nat} (hR:R.length=17) (hS:S.length=17) (hD:D.length=17):(tcells R S D m).length=52:=by simp[tcells,u32V_len,hR,hS,hD]
theorem tc_r {R S D:List Nat} {m:Nat} (hR:R.length=17):((tcells R S D m).drop 0).take 17=u32V R:=by
 have h:(u32V R).length=17:=(u32V_len R).trans hR
 unfold tcells
 rw[List.drop_zero,List.append_assoc,List.append_assoc,List.take_left' h]
theorem tc_s {R S D:List Nat} {m:Nat} (hR:R.length=17) (hS:S.length=17):((tcells R S D m).drop 17).take 17=u32V S:=by
 have h:(u32V R).length=17:=(u32V_len R).trans hR
 have h2:(u32V S).length=17:=(u32V_len S).trans hS
 unfold tcells
 rw[List.append_assoc,List.append_assoc,List.drop_left' h,List.take_left' h2]
theorem tc_d {R S D:List Nat} {m:Nat} (hR:R.length=17) (hS:S.length=17) (hD:D.length=17):((tcells R S D m).drop 34).take 17=u32V D:=by
 have h:(u32V R++u32V S).length=34:=by simp[u32V_len,hR,hS]
 have h2:(u32V D).length=17:=(u32V_len D).trans hD
 unfold tcells
 rw[List.append_assoc,List.drop_left' h,List.take_left' h2]
theorem tc_cell {R S D:List Nat} {m:Nat} (hR:R.length=17) (hS:S.length=17) (hD:D.length=17) (i:Nat) (hi:i<17):(tcells R S D m)[34+i]? = some (.int .u32 ((D.getD i 0:Nat):Int)):=by
 have h:(u32V R++u32V S).length=34:=by simp[u32V_len,hR,hS]
 unfold tcells
 rw[List.append_assoc,List.getElem?_append_right (by rw[h];omega),h,Nat.add_sub_cancel_left,List.getElem?_append_left (by rw[u32V_len,hD];exact hi)]
 exact u32V_get D i (by omega)
theorem tc_count {R S D:List Nat} {m:Nat} (hR:R.length=17) (hS:S.length=17) (hD:D.length=17):(tcells R S D m)[51]? = some (.int .i64 ((m:Nat):Int)):=by
 have h:(u32V R++u32V S++u32V D).length=51:=by simp[u32V_len,hR,hS,hD]
 unfold tcells
 rw[List.getElem?_append_right (by rw[h];exact Nat.le_refl _),h]
 rfl
theorem tc_put {R S D:List Nat} {m:Nat} (hR:R.length=17) (hS:S.length=17) (hD:D.length=17) (i x:Nat) (hi:i<17):(tcells R S D m).set (34+i) (.int .u32 ((x:Nat):Int))=tcells R S (D.set i x) m:=by
 have h:(u32V R++u32V S).length=34:=by simp[u32V_len,hR,hS]
 unfold tcells
 rw[List.append_assoc,List.set_append_right _ _ (by rw[h];omega),h,Nat.add_sub_cancel_left,List.set_append_left _ _ (by rw[u32V_len,hD];exact hi),u32V_put,←List.append_assoc]
theorem tc_putc {R S D:List Nat} {m:Nat} (hR:R.length=17) (hS:S.length=17) (hD:D.length=17) (k:Nat):(tcells R S D m).set 51 (.int .i64 ((k:Nat):Int))=tcells R S D k:=by
 have h:(u32V R++u32V S++u32V D).length=51:=by simp[u32V_len,hR,hS,hD]
 unfold tcells
 rw[List.set_append_right _ _ (by rw[h];exact Nat.le_refl _),h]
 rfl
theorem tc_over {R S D:List Nat} {m:Nat} (hR:R.length=17) (hS:S.length=17) (hD:D.length=17) {E:List Nat} (hE:E.length=17):laidOver (tcells R S D m) 34 (u32V E)=tcells R S E m:=by
 have h:(u32V R++u32V S).length=34:=by simp[u32V_len,hR,hS]
 have h2:(u32V R++u32V S++u32V D).length=34+(u32V E).length:=by simp[u32V_len,hR,hS,hD,hE]
 unfold laidOver
 congr 1
 ·congr 1
  unfold tcells
  rw[List.append_assoc,List.take_left' h]
 ·unfold tcells
  rw[List.drop_left' h2]
set_option maxRecDepth 100000 in
set_option maxHeartbeats 1600000 in
theorem endPiece_any (b:Nat) (R S D:List Nat) (m:Nat) (w:World) (hR:R.length=17) (hS:S.length=17) (hD:D.length=17) (hm:m<17) (hRl:∀ i,R.getD i 0<256) (hDl:∀ i,D.getD i 0<511) (hb:Blk w b 180 (tcells R S D m)):
  Calls Tryz.prog 122 #[.pointer (some ⟨b,0,none⟩)] w fun e w'=>e = .returned (.tuple #[]) ∧
   (∃ D',Pol.Fold D'∧Dig.val D'%Pol.P=Dig.val (D.set m (D.getD m 0+1))*Dig.val R%Pol.P∧Blk w' b 180 (tcells R S D' 0))∧w.grownBy w' (some b):=by
 have c51:=hb.cell (tc_count hR hS hD)
 have cm:=hb.cell (tc_cell hR hS hD m hm)
 have hf:=hb.frozen
 obtain ⟨E,hE⟩:∃ E,E=D.set m (D.getD m 0+1):=⟨_,rfl⟩
 have hEL:E.length=17:=by rw[hE];simpa using hD
 have hEl:∀ i,E.getD i 0<512:=fun i=>by
  rw[hE,getD_set _ _ _ _ (by omega)]
  have:=hDl i
  have:=hDl m
  split <;> omega
 have hB1:=hb.setCell_same (34+m) (.int .u32 ((D.getD m 0+1:Nat):Int))
 rw[tc_put hR hS hD m _ hm,←hE] at hB1
 have hG1:=((World.grownBy.refl w (some b)).setCell (34+m) (.int .u32 ((D.getD m 0+1:Nat):Int))).drew
 obtain ⟨x,hx⟩:∃ x:Nat,x=D.getD m 0+1:=⟨_,rfl⟩
 rw[←hx] at hB1 hG1
 have n1:(((D.getD m 0:Nat):Int)+1)%4294967296=(x:Int):=by have:=hDl m;omega
 have TM:=hide (fun w=>times_any E R w hEL hR hEl hRl)
 rw[←hE]
 have HB1:=hide hB1
 have HG1:=hide hG1
 have m1:(m:Int)<17:=by omega
 clear hB1 hG1 hDl hRl hEl hE hx hb
 generalize D.getD m 0=y at *
 have LE:=hide hEL
 have LR:=hide hR
 have LS:=hide hS
 clear hEL hR hS hD
 go_enter Tryz.func122,Tryz.ntmps122
 go_wp2
 go_region
 go_wp2
 refine wp_letterW (fun w'=>Blk w' b 180 (tcells R S E m)∧w.grownBy w' (some b)) ⟨HB1.out.drew,HG1.out⟩ ?_
 clear c51 cm hf n1 HB1 HG1
 rintro w1 ⟨hB1,hG1⟩
 have hr1:=hB1.range 34 17
 rw[tc_d LR.out LS.out LE.out] at hr1
 have hr2:=hB1.range 0 17
 rw[tc_r LR.out] at hr2
 have U1:Tryz.prog.underlying 176=some (.array 17 150):=Tryz.underlying176
 have I1:(Tryz.prog.info? 176).map (·.size)=some (u32V E).length:=by rw[L17 LE.out];exact info17
 have I2:(Tryz.prog.info? 176).map (·.size)=some (u32V R).length:=by rw[L17 LR.out];exact info17
 refine wp_letterA (fun A0 hA0=>?_)
 have f0x0:A0.eval (.tmp 0) = .pointer (some ⟨b,0,none⟩):=by rw[hA0];rfl
 have z0:A0.tmps.size=30:=by rw[hA0];rfl
 have HA0:=hide hA0
 clear hA0
 refine wp_region_any (by kernel_rfl) ?_
 change wpAny _ _ _ _ _ _ _ (World.drew _)
 refine wpAny_take (i:=0) (v:=.pointer (some ⟨b,0,none⟩)) rfl (by kernel_rfl) (by kernel_rfl) (by kernel_rfl) (fun _ _ _ h=>h) (Or.inl ⟨by rfl,fun w=>?_⟩) ?_
 ·rw[run_move (.tmp 0) rfl,f0x0]
 change wpAny _ _ _ _ _ _ (Act.put _ (some 15) _) _
 generalize hA1:Act.put A0 (some 15) _=A1
 have f1x0:A1.eval (.tmp 0) = .pointer (some ⟨b,0,none⟩):=by rw[←hA1];exact (Act.eval_other _ _ _ _ (by decide)).trans f0x0
 have f1x15:A1.eval (.tmp 15) = .pointer (some ⟨b,0,none⟩):=by rw[←hA1];exact Act.eval_same _ _ _ (by rw[z0];decide)
 have z1:A1.tmps.size=30:=by rw[←hA1];exact (Act.put_size _ _ _).trans z0
 refine wpAny_take (i:=1) (v:=.pointer (some ⟨b,0,none⟩)) rfl (by kernel_rfl) (by kernel_rfl) (by kernel_rfl) (fun _ _ _ h=>h) (Or.inl ⟨by rfl,fun w=>?_⟩) ?_
 ·rw[run_move (.tmp 0) rfl,f1x0]
 change wpAny _ _ _ _ _ _ (Act.put _ (some 16) _) _
 generalize hA2:Act.put A1 (some 16) _=A2
 have f2x0:A2.eval (.tmp 0) = .pointer (some ⟨b,0,none⟩):=by rw[←hA2];exact (Act.eval_other _ _ _ _ (by decide)).trans f1x0
 have f2x15:A2.eval (.tmp 15) = .pointer (some ⟨b,0,none⟩):=by rw[←hA2];exact (Act.eval_other _ _ _ _ (by decide)).trans f1x15
 have f2x16:A2.eval (.tmp 16) = .pointer (some ⟨b,0,none⟩):=by rw[←hA2];exact Act.eval_same _ _ _ (by rw[z1];decide)
 have z2:A2.tmps.size=30:=by rw[←hA2];exact (Act.put_size _ _ _).trans z1
 refine wpAny_take (i:=2) (v:=.pointer (some ⟨b,0,none⟩)) rfl (by kernel_rfl) (by kernel_rfl) (by kernel_rfl) (fun _ _ _ h=>h) (Or.inl ⟨by rfl,fun w=>?_⟩) ?_
 ·exact run_nilCheck (.tmp 16) _ rfl f2x16
 change wpAny _ _ _ _ _ _ (Act.put _ (some 17) _) _
 generalize hA3:Act.put A2 (some 17) _=A3
 have f3x0:A3.eval (.tmp 0) = .pointer (some ⟨b,0,none⟩):=by rw[←hA3];exact (Act.eval_other _ _ _ _ (by decide)).trans f2x0
 have f3x15:A3.eval (.tmp 15) = .pointer (some ⟨b,0,none⟩):=by rw[←hA3];exact (Act.eval_other _ _ _ _ (by decide)).trans f2x15
 have f3x16:A3.eval (.tmp 16) = .pointer (some ⟨b,0,none⟩):=by rw[←hA3];exact (Act.eval_other _ _ _ _ (by decide)).trans f2x16
 have f3x17:A3.eval (.tmp 17) = .pointer (some ⟨b,0,none⟩):=by rw[←hA3];exact Act.eval_same _ _ _ (by rw[z2];decide)
 have z3:A3.tmps.size=30:=by rw[←hA3];exact (Act.put_size _ _ _).trans z2
 refine wpAny_take (i:=3) (v:=.pointer (some ⟨b,34,none⟩)) rfl (by kernel_rfl) (by kernel_rfl) (by kernel_rfl) (fun _ _ _ h=>h) (Or.inl ⟨by rfl,fun w=>?_⟩) ?_
 ·unfold execOp;rw[show (Oper.op _)=Op.fieldAddr 180 (.tmp 17) 2 from rfl];simp only[f3x17];go_simp
 change wpAny _ _ _ _ _ _ (Act.put _ (some 18) _) _
 generalize hA4:Act.put A3 (some 18) _=A4
 have f4x0:A4.eval (.tmp 0) = .pointer (some ⟨b,0,none⟩):=by rw[←hA4];exact (Act.eval_other _ _ _ _ (by decide)).trans f3x0
 have f4x15:A4.eval (.tmp 15) = .pointer (some ⟨b,0,none⟩):=by rw[←hA4];exact (Act.eval_other _ _ _ _ (by decide)).trans f3x15
 have f4x17:A4.eval (.tmp 17) = .pointer (some ⟨b,0,none⟩):=by rw[←hA4];exact (Act.eval_other _ _ _ _ (by decide)).trans f3x17
 have f4x18:A4.eval (.tmp 18) = .pointer (some ⟨b,34,none⟩):=by rw[←hA4];exact Act.eval_same _ _ _ (by rw[z3];decide)
 have z4:A4.tmps.size=30:=by rw[←hA4];exact (Act.put_size _ _ _).trans z3
 refine wpAny_take (i:=5) (v:=.pointer (some ⟨b,0,none⟩)) rfl (by kernel_rfl) (by kernel_rfl) (by kernel_rfl) (fun _ _ _ h=>h) (Or.inl ⟨by rfl,fun w=>?_⟩) ?_
 ·rw[run_move (.tmp 0) rfl,f4x0]
 change wpAny _ _ _ _ _ _ (Act.put _ (some 20) _) _
 generalize hA5:Act.put A4 (some 20) _=A5
 have f5x0:A5.eval (.tmp 0) = .pointer (some ⟨b,0,none⟩):=by rw[←hA5];exact (Act.eval_other _ _ _ _ (by decide)).trans f4x0
 have f5x15:A5.eval (.tmp 15) = .pointer (some ⟨b,0,none⟩):=by rw[←hA5];exact (Act.eval_other _ _ _ _ (by decide)).trans f4x15
 have f5x18:A5.eval (.tmp 18) = .pointer (some ⟨b,34,none⟩):=by rw[←hA5];exact (Act.eval_other _ _ _ _ (by decide)).trans f4x18
 have f5x20:A5.eval (.tmp 20) = .pointer (some ⟨b,0,none⟩):=by rw[←hA5];exact Act.eval_same _ _ _ (by rw[z4];decide)
 have z5:A5.tmps.size=30:=by rw[←hA5];exact (Act.put_size _ _ _).trans z4
 refine wpAny_take (i:=6) (v:=.pointer (some ⟨b,0,none⟩)) rfl (by kernel_rfl) (by kernel_rfl) (by kernel_rfl) (fun _ _ _ h=>h) (Or.inl ⟨by rfl,fun w=>?_⟩) ?_
 ·exact run_nilCheck (.tmp 20) _ rfl f5x20
 change wpAny _ _ _ _ _ _ (Act.put _ (some 21) _) _
 generalize hA6:Act.put A5 (some 21) _=A6
 have f6x15:A6.eval (.tmp 15) = .pointer (some ⟨b,0,none⟩):=by rw[←hA6];exact (Act.eval_other _ _ _ _ (by decide)).trans f5x15
 have f6x18:A6.eval (.tmp 18) = .pointer (some ⟨b,34,none⟩):=by rw[←hA6];exact (Act.eval_other _ _ _ _ (by decide)).trans f5x18
 have f6x20:A6.eval (.tmp 20) = .pointer (some ⟨b,0,none⟩):=by rw[←hA6];exact (Act.eval_other _ _ _ _ (by decide)).trans f5x20
 have f6x21:A6.eval (.tmp 21) = .pointer (some ⟨b,0,none⟩):=by rw[←hA6];exact Act.eval_same _ _ _ (by rw[z5];decide)
 have z6:A6.tmps.size=30:=by rw[←hA6];exact (Act.put_size _ _ _).trans z5
 refine wpAny_take (i:=7) (v:=.pointer (some ⟨b,0,none⟩)) rfl (by kernel_rfl) (by kernel_rfl) (by kernel_rfl) (fun _ _ _ h=>h) (Or.inl ⟨by rfl,fun w=>?_⟩) ?_
 ·unfold execOp;rw[show (Oper.op _)=Op.fieldAddr 180 (.tmp 21) 0 from rfl];simp only[f6x21];go_simp
 change wpAny _ _ _ _ _ _ (Act.put _ (some 22) _) _
 generalize hA7:Act.put A6 (some 22) _=A7
 have f7x15:A7.eval (.tmp 15) = .pointer (some ⟨b,0,none⟩):=by rw[←hA7];exact (Act.eval_other _ _ _ _ (by decide)).trans f6x15
 have f7x18:A7.eval (.tmp 18) = .pointer (some ⟨b,34,none⟩):=by rw[←hA7];exact (Act.eval_other _ _ _ _ (by decide)).trans f6x18
 have f7x21:A7.eval (.tmp 21) = .pointer (some ⟨b,0,none⟩):=by rw[←hA7];exact (Act.eval_other _ _ _ _ (by decide)).trans f6x21
 have f7x22:A7.eval (.tmp 22) = .pointer (some ⟨b,0,none⟩):=by rw[←hA7];exact Act.eval_same _ _ _ (by rw[z6];decide)
 have z7:A7.tmps.size=30:=by rw[←hA7];exact (Act.put_size _ _ _).trans z6
 refine wpAny_ready (rs:=[4,8]) (by kernel_rfl) (by simp) ?_
 refine AllReady.cons rfl (fun K hK=>?_) (AllReady.cons rfl (fun K hK=>?_) AllReady.nil)
 ·refine step_load_mid rfl 176 (.tmp 18) rfl (b) 34 f7x18 (u32V E) (.array 17 150) hr1 U1 rfl I1 ?_
  refine hK _ _ ?_
  clear hK K
  change wpAny _ _ _ _ _ _ (Act.put _ (some 19) _) _
  generalize hA8:Act.put A7 (some 19) _=A8
  have f8x15:A8.eval (.tmp 15) = .pointer (some ⟨b,0,none⟩):=by rw[←hA8];exact (Act.eval_other _ _ _ _ (by decide)).trans f7x15
  have f8x18:A8.eval (.tmp 18) = .pointer (some ⟨b,34,none⟩):=by rw[←hA8];exact (Act.eval_other _ _ _ _ (by decide)).trans f7x18
  have f8x22:A8.eval (.tmp 22) = .pointer (some ⟨b,0,none⟩):=by rw[←hA8];exact (Act.eval_other _ _ _ _ (by decide)).trans f7x22
  have f8x19:A8.eval (.tmp 19) = .agg (u32V E).toArray:=by rw[←hA8];exact Act.eval_same _ _ _ (by rw[z7];decide)
  have z8:A8.tmps.size=30:=by rw[←hA8];exact (Act.put_size _ _ _).trans z7
  refine wpAny_ready (rs:=[8]) (by kernel_rfl) (by simp) ?_
  refine AllReady.cons rfl (fun K hK=>?_) AllReady.nil
  refine step_load_mid rfl 176 (.tmp 22) rfl (b) 0 f8x22 (u32V R) (.array 17 150) hr2 U1 rfl I2 ?_
  refine hK _ _ ?_
  clear hK K
  change wpAny _ _ _ _ _ _ (Act.put _ (some 23) _) _
  generalize hA9:Act.put A8 (some 23) _=A9
  have f9x15:A9.eval (.tmp 15) = .pointer (some ⟨b,0,none⟩):=by rw[←hA9];exact (Act.eval_other _ _ _ _ (by decide)).trans f8x15
  have f9x22:A9.eval (.tmp 22) = .pointer (some ⟨b,0,none⟩):=by rw[←hA9];exact (Act.eval_other _ _ _ _ (by decide)).trans f8x22
  have f9x19:A9.eval (.tmp 19) = .agg (u32V E).toArray:=by rw[←hA9];exact (Act.eval_other _ _ _ _ (by decide)).trans f8x19
  have f9x23:A9.eval (.tmp 23) = .agg (u32V R).toArray:=by rw[←hA9];exact Act.eval_same _ _ _ (by rw[z8];decide)
  have z9:A9.tmps.size=30:=by rw[←hA9];exact (Act.put_size _ _ _).trans z8
  refine wpAny_ready (rs:=[9]) (by kernel_rfl) (by simp) ?_
  refine AllReady.cons rfl (fun K hK=>?_) AllReady.nil
  refine step_call rfl 131 #[.tmp 19,.tmp 23] _ rfl #[.agg (u32V E).toArray,.agg (u32V R).toArray] (by simp[f9x19,f9x23]) Tryz.call131 ?_
  refine (TM.out _).mono ?_
  rintro e w4 ⟨⟨c,rfl,hF,hv⟩,hb4⟩
  refine ⟨_,rfl,hK _ _ ?_⟩
  clear hK K
  change wpAny _ _ _ _ _ _ (Act.put _ (some 24) _) _
  generalize hA10:Act.put A9 (some 24) _=A10
  have f10x15:A10.eval (.tmp 15) = .pointer (some ⟨b,0,none⟩):=by rw[←hA10];exact (Act.eval_other _ _ _ _ (by decide)).trans f9x15
  have f10x19:A10.eval (.tmp 19) = .agg (u32V E).toArray:=by rw[←hA10];exact (Act.eval_other _ _ _ _ (by decide)).trans f9x19
  have f10x23:A10.eval (.tmp 23) = .agg (u32V R).toArray:=by rw[←hA10];exact (Act.eval_other _ _ _ _ (by decide)).trans f9x23
  have f10x24:A10.eval (.tmp 24) = .agg (u32V c).toArray:=by rw[←hA10];exact Act.eval_same _ _ _ (by rw[z9];decide)
  have z10:A10.tmps.size=30:=by rw[←hA10];exact (Act.put_size _ _ _).trans z9
  have hB4:=hB1.drew.below hb4 hB1.lt
  have hG4:=hG1.drew.trans (hb4.grownBy _)
  have LC:=hF.1.1
  refine wpAny_take (i:=10) (v:=.pointer (some ⟨b,0,none⟩)) rfl (by kernel_rfl) (by kernel_rfl) (by kernel_rfl) (fun _ _ _ h=>h) (Or.inl ⟨by rfl,fun w=>?_⟩) ?_
  ·exact run_nilCheck (.tmp 15) _ rfl f10x15
  change wpAny _ _ _ _ _ _ (Act.put _ (some 25) _) _
  generalize hA11:Act.put A10 (some 25) _=A11
  have f11x15:A11.eval (.tmp 15) = .pointer (some ⟨b,0,none⟩):=by rw[←hA11];exact (Act.eval_other _ _ _ _ (by decide)).trans f10x15
  have f11x24:A11.eval (.tmp 24) = .agg (u32V c).toArray:=by rw[←hA11];exact (Act.eval_other _ _ _ _ (by decide)).trans f10x24
  have f11x25:A11.eval (.tmp 25) = .pointer (some ⟨b,0,none⟩):=by rw[←hA11];exact Act.eval_same _ _ _ (by rw[z10];decide)
  have z11:A11.tmps.size=30:=by rw[←hA11];exact (Act.put_size _ _ _).trans z10
  refine wpAny_take (i:=11) (v:=.pointer (some ⟨b,34,none⟩)) rfl (by kernel_rfl) (by kernel_rfl) (by kernel_rfl) (fun _ _ _ h=>h) (Or.inl ⟨by rfl,fun w=>?_⟩) ?_
  ·unfold execOp;rw[show (Oper.op _)=Op.fieldAddr 180 (.tmp 25) 2 from rfl];simp only[f11x25];go_simp
  change wpAny _ _ _ _ _ _ (Act.put _ (some 26) _) _
  generalize hA12:Act.put A11 (some 26) _=A12
  have f12x24:A12.eval (.tmp 24) = .agg (u32V c).toArray:=by rw[←hA12];exact (Act.eval_other _ _ _ _ (by decide)).trans f11x24
  have f12x25:A12.eval (.tmp 25) = .pointer (some ⟨b,0,none⟩):=by rw[←hA12];exact (Act.eval_other _ _ _ _ (by decide)).trans f11x25
  have f12x26:A12.eval (.tmp 26) = .pointer (some ⟨b,34,none⟩):=by rw[←hA12];exact Act.eval_same _ _ _ (by rw[z11];decide)
  have z12:A12.tmps.size=30:=by rw[←hA12];exact (Act.put_size _ _ _).trans z11
  refine wpAny_ready (rs:=[12]) (by kernel_rfl) (by simp) ?_
  refine AllReady.cons rfl (fun K hK=>?_) AllReady.nil
  refine step_store_blk rfl 176 (.tmp 26) (.tmp 24) rfl b 34 (u32V c).toArray f12x26 f12x24 (by rw[info17];simp[u32V_len,LC]) (all_oneCell_toArray (u32V_one _)) 180 (tcells R S E m) hB4 (by rw[tc_len LR.out LS.out LE.out];simp[u32V_len,LC]) ?_
  intro w5 hB5 hG5
  rw[show ((u32V c).toArray.toList)=u32V c from rfl,tc_over LR.out LS.out LE.out LC] at hB5
  have hG6:=hG4.trans hG5
  refine hK _ _ ?_
  clear hK K
  refine wpAny_done (by kernel_rfl) ?_ _
  subst hA12 hA11 hA10 hA9 hA8 hA7 hA6 hA5 hA4 hA3 hA2 hA1
  rw[HA0.out]
  clear HA0 z0 hb4 hB4 hG4 hG5 hr1 hr2 U1 I1 I2 hB1 hG1 TM
  have hf:=hB5.frozen
  have c51:=hB5.cell (tc_count LR.out LS.out LC)
  have hB7:=hB5.setCell_same 51 (.int .i64 ((0:Nat):Int))
  rw[tc_putc LR.out LS.out LC] at hB7
  have HB7:=hide hB7
  have HG7:=hide (hG6.setCell 51 (.int .i64 ((0:Nat):Int)))
  clear hB7 hB5 hG6
  go_wp2
  go_end0
  exact ⟨rfl,⟨c,hF,hv,HB7.out⟩,HG7.out⟩
 ·refine step_load_mid rfl 176 (.tmp 22) rfl (b) 0 f7x22 (u32V R) (.array 17 150) hr2 U1 rfl I2 ?_
  refine hK _ _ ?_
  clear hK K
  change wpAny _ _ _ _ _ _ (Act.put _ (some 23) _) _
  generalize hA8:Act.put A7 (some 23) _=A8
  have f8x15:A8.eval (.tmp 15) = .pointer (some ⟨b,0,none⟩):=by rw[←hA8];exact (Act.eval_other _ _ _ _ (by decide)).trans f7x15
  have f8x18:A8.eval (.tmp 18) = .pointer (some ⟨b,34,none⟩):=by rw[←hA8];exact (Act.eval_other _ _ _ _ (by decide)).trans f7x18
  have f8x22:A8.eval (.tmp 22) = .pointer (some ⟨b,0,none⟩):=by rw[←hA8];exact (Act.eval_other _ _ _ _ (by decide)).trans f7x22
  have f8x23:A8.eval (.tmp 23) = .agg (u32V R).toArray:=by rw[←hA8];exact Act.eval_same _ _ _ (by rw[z7];decide)
  have z8:A8.tmps.size=30:=by rw[←hA8];exact (Act.put_size _ _ _).trans z7
  refine wpAny_ready (rs:=[4]) (by kernel_rfl) (by simp) ?_
  refine AllReady.cons rfl (fun K hK=>?_) AllReady.nil
  refine step_load_mid rfl 176 (.tmp 18) rfl (b) 34 f8x18 (u32V E) (.array 17 150) hr1 U1 rfl I1 ?_
  refine hK _ _ ?_
  clear hK K
  change wpAny _ _ _ _ _ _ (Act.put _ (some 19) _) _
  generalize hA9:Act.put A8 (some 19) _=A9
  have f9x15:A9.eval (.tmp 15) = .pointer (some ⟨b,0,none⟩):=by rw[←hA9];exact (Act.eval_other _ _ _ _ (by decide)).trans f8x15
  have f9x18:A9.eval (.tmp 18) = .pointer (some ⟨b,34,none⟩):=by rw[←hA9];exact (Act.eval_other _ _ _ _ (by decide)).trans f8x18
  have f9x23:A9.eval (.tmp 23) = .agg (u32V R).toArray:=by rw[←hA9];exact (Act.eval_other _ _ _ _ (by decide)).trans f8x23
  have f9x19:A9.eval (.tmp 19) = .agg (u32V E).toArray:=by rw[←hA9];exact Act.eval_same _ _ _ (by rw[z8];decide)
  have z9:A9.tmps.size=30:=by rw[←hA9];exact (Act.put_size _ _ _).trans z8
  refine wpAny_ready (rs:=[9]) (by kernel_rfl) (by simp) ?_
  refine AllReady.cons rfl (fun K hK=>?_) AllReady.nil
  refine step_call rfl 131 #[.tmp 19,.tmp 23] _ rfl #[.agg (u32V E).toArray,.agg (u32V R).toArray] (by simp[f9x19,f9x23]) Tryz.call131 ?_
  refine (TM.out _).mono ?_
  rintro e w4 ⟨⟨c,rfl,hF,hv⟩,hb4⟩
  refine ⟨_,rfl,hK _ _ ?_⟩
  clear hK K
  change wpAny _ _ _ _ _ _ (Act.put _ (some 24) _) _
  generalize hA10:Act.put A9 (some 24) _=A10
  have f10x15:A10.eval (.tmp 15) = .pointer (some ⟨b,0,none⟩):=by rw[←hA10];exact (Act.eval_other _ _ _ _ (by decide)).trans f9x15
  have f10x23:A10.eval (.tmp 23) = .agg (u32V R).toArray:=by rw[←hA10];exact (Act.eval_other _ _ _ _ (by decide)).trans f9x23
  have f10x19:A10.eval (.tmp 19) = .agg (u32V E).toArray:=by rw[←hA10];exact (Act.eval_other _ _ _ _ (by decide)).trans f9x19
  have f10x24:A10.eval (.tmp 24) = .agg (u32V c).toArray:=by rw[←hA10];exact Act.eval_same _ _ _ (by rw[z9];decide)
  have z10:A10.tmps.size=30:=by rw[←hA10];exact (Act.put_size _ _ _).trans z9
  have hB4:=hB1.drew.below hb4 hB1.lt
  have hG4:=hG1.drew.trans (hb4.grownBy _)
  have LC:=hF.1.1
  refine wpAny_take (i:=10) (v:=.pointer (some ⟨b,0,none⟩)) rfl (by kernel_rfl) (by kernel_rfl) (by kernel_rfl) (fun _ _ _ h=>h) (Or.inl ⟨by rfl,fun w=>?_⟩) ?_
  ·exact run_nilCheck (.tmp 15) _ rfl f10x15
  change wpAny _ _ _ _ _ _ (Act.put _ (some 25) _) _
  generalize hA11:Act.put A10 (some 25) _=A11
  have f11x15:A11.eval (.tmp 15) = .pointer (some ⟨b,0,none⟩):=by rw[←hA11];exact (Act.eval_other _ _ _ _ (by decide)).trans f10x15
  have f11x24:A11.eval (.tmp 24) = .agg (u32V c).toArray:=by rw[←hA11];exact (Act.eval_other _ _ _ _ (by decide)).trans f10x24
  have f11x25:A11.eval (.tmp 25) = .pointer (some ⟨b,0,none⟩):=by rw[←hA11];exact Act.eval_same _ _ _ (by rw[z10];decide)
  have z11:A11.tmps.size=30:=by rw[←hA11];exact (Act.put_size _ _ _).trans z10
  refine wpAny_take (i:=11) (v:=.pointer (some ⟨b,34,none⟩)) rfl (by kernel_rfl) (by kernel_rfl) (by kernel_rfl) (fun _ _ _ h=>h) (Or.inl ⟨by rfl,fun w=>?_⟩) ?_
  ·unfold execOp;rw[show (Oper.op _)=Op.fieldAddr 180 (.tmp 25) 2 from rfl];simp only[f11x25];go_simp
  change wpAny _ _ _ _ _ _ (Act.put _ (some 26) _) _
  generalize hA12:Act.put A11 (some 26) _=A12
  have f12x24:A12.eval (.tmp 24) = .agg (u32V c).toArray:=by rw[←hA12];exact (Act.eval_other _ _ _ _ (by decide)).trans f11x24
  have f12x25:A12.eval (.tmp 25) = .pointer (some ⟨b,0,none⟩):=by rw[←hA12];exact (Act.eval_other _ _ _ _ (by decide)).trans f11x25
  have f12x26:A12.eval (.tmp 26) = .pointer (some ⟨b,34,none⟩):=by rw[←hA12];exact Act.eval_same _ _ _ (by rw[z11];decide)
  have z12:A12.tmps.size=30:=by rw[←hA12];exact (Act.put_size _ _ _).trans z11
  refine wpAny_ready (rs:=[12]) (by kernel_rfl) (by simp) ?_
  refine AllReady.cons rfl (fun K hK=>?_) AllReady.nil
  refine step_store_blk rfl 176 (.tmp 26) (.tmp 24) rfl b 34 (u32V c).toArray f12x26 f12x24 (by rw[info17];simp[u32V_len,LC]) (all_oneCell_toArray (u32V_one _)) 180 (tcells R S E m) hB4 (by rw[tc_len LR.out LS.out LE.out];simp[u32V_len,LC]) ?_
  intro w5 hB5 hG5
  rw[show ((u32V c).toArray.toList)=u32V c from rfl,tc_over LR.out LS.out LE.out LC] at hB5
  have hG6:=hG4.trans hG5
  refine hK _ _ ?_
  clear hK K
  refine wpAny_done (by kernel_rfl) ?_ _
  subst hA12 hA11 hA10 hA9 hA8 hA7 hA6 hA5 hA4 hA3 hA2 hA1
  rw[HA0.out]
  clear HA0 z0 hb4 hB4 hG4 hG5 hr1 hr2 U1 I1 I2 hB1 hG1 TM
  have hf:=hB5.frozen
  have c51:=hB5.cell (tc_count LR.out LS.out LC)
  have hB7:=hB5.setCell_same 51 (.int .i64 ((0:Nat):Int))
  rw[tc_putc LR.out LS.out LC] at hB7
  have HB7:=hide hB7
  have HG7:=hide (hG6.setCell 51 (.int .i64 ((0:Nat):Int)))
  clear hB7 hB5 hG6
  go_wp2
  go_end0
  exact ⟨rfl,⟨c,hF,hv,HB7.out⟩,HG7.out⟩
theorem take_nums (y x m:Nat) (hy:y<256) (hx:x<256) (hm:m<16):∃ z m1:Nat,z=y+x∧m1=m+1∧((y:Int)+(x:Int))%4294967296=(z:Int)∧(x:Int)%4294967296=(x:Int)∧(m:Int)<17∧(m:Int)+1=(m1:Int)∧IntKind.i64.wrap ((m:Int)+1)=(m1:Int)∧wrap64 ((m:Int)+1)=(m1:Int):=
 ⟨y+x,m+1,rfl,rfl,by omega,by omega,by omega,by omega,(IntWalk.i64_in _ (by omega)).trans (by omega),(IntWalk.wrap64_in _ (by omega)).trans (by omega)⟩
theorem Pol.Sum.put_lt {r:Nat} {l:List UInt8} {D:List Nat} (h:Pol.Sum r l D) (x:UInt8) (z:Nat) (hz:z=D.getD (l.length%16) 0+x.toNat) (i:Nat):(D.set (l.length%16) z).getD i 0<511:=by
 have h1:=h.len
 have h2:=h.next
 have h3:=h.lt i
 have h4:=UInt8.toNat_lt x
 have h5:l.length%16<16:=Nat.mod_lt _ (by decide)
 generalize l.length%16=j at *
 rw[getD_set _ _ _ _ (by omega)]
 split <;> omega
set_option maxRecDepth 100000 in
set_option maxHeartbeats 1600000 in
theorem twrite_any (b:Nat) (R S D:List Nat) (r:Nat) (l:List UInt8) (s:ByteArray) (w:World) (hR:R.length=17) (hS:S.length=17) (hRl:∀ i,R.getD i 0<256) (hr:Dig.val R=r) (hn:l.length+s.size<2 ^ 62)
  (hs0:Pol.Sum r l D) (hb:Blk w b 180 (tcells R S D (l.length%16))):
  Calls Tryz.prog 106 #[.pointer (some ⟨b,0,none⟩),.string s] w fun e w'=>e = .returned (.tuple #[]) ∧
   (∃ D',Pol.Sum r (l++s.data.toList) D'∧Blk w' b 180 (tcells R S D' ((l++s.data.toList).length%16)))∧w.grownBy w' (some b):=by
 have EP:=hide (fun D m w hD hm=>endPiece_any b R S D m w hR hS hD hm hRl)
 rw[hr] at EP
 have LR:=hide hR
 have LS:=hide hS
 have HSZ:=hide (text_len s)
 have hs62:s.size<2 ^ 62:=by omega
 clear hR hS hRl hr hn
 go_enter Tryz.func106,Tryz.ntmps106
 go_wp2
 go_loopw [4] (fun i wr=>∃ k:Nat,k≤s.size∧i = .int .i64 k∧(∃ D,Pol.Sum r (l++s.data.toList.take k) D∧Blk wr b 180 (tcells R S D ((l++s.data.toList.take k).length%16)))∧w.grownBy wr (some b)) (fun i _=>s.size-(intOf i).toNat)
 case atStart=>exact ⟨0,by omega,rfl,⟨D,by simpa using hs0,by simpa using hb⟩,World.grownBy.refl _ _⟩
 case round=>
  clear hs0 hb
  obtain ⟨k,hks,rfl,⟨D,hsum,hB⟩,hg⟩:=hrel
  by_cases hlt:k<s.size
  ·have hl2:l++s.data.toList.take (k+1)=l++s.data.toList.take k++[s[k]]:=by rw[str_at s k hlt,List.append_assoc]
   generalize l++s.data.toList.take k=l1 at *
   have hm16:l1.length%16<16:=Nat.mod_lt _ (by decide)
   have hDL:=hsum.len
   have hnx:=hsum.next
   have c51:=hB.cell (tc_count LR.out LS.out hDL)
   have cm:=hB.cell (tc_cell LR.out LS.out hDL (l1.length%16) (Nat.lt_of_lt_of_le hm16 (by decide)))
   have hf:=hB.frozen
   obtain ⟨z,m1,hz,hm1,n1,n2,n3,n4,n5,n6⟩:=take_nums (D.getD (l1.length%16) 0) s[k].toNat (l1.length%16) hnx (UInt8.toNat_lt _) hm16
   have hD1l:=hsum.put_lt s[k] z hz
   have h17:l1.length%16<17:=Nat.lt_of_lt_of_le hm16 (by decide)
   have hB1:=hB.setCell_same (34+l1.length%16) (.int .u32 ((z:Nat):Int))
   rw[tc_put LR.out LS.out hDL _ _ h17] at hB1
   have hD1L:(D.set (l1.length%16) z).length=17:=by simpa using hDL
   have hB2:=hB1.setCell_same 51 (.int .i64 ((m1:Nat):Int))
   rw[tc_putc LR.out LS.out hD1L] at hB2
   have HG2:=hide ((hg.setCell (34+l1.length%16) (.int .u32 ((z:Nat):Int))).setCell 51 (.int .i64 ((m1:Nat):Int))).drew
   have HB2:=hide hB2.drew
   have HLEN:=hide (show (l1++[s[k]]).length%16=(l1.length+1)%16 by simp)
   have HTK:=hide (fun hne=>hsum.take s[k] hne)
   have HFL:=hide (fun hne S'=>@Pol.Sum.full r l1 D (D.set (l1.length%16) z) _ S' hsum s[k] hne (by rw[hz]) rfl)
   rw[←hz] at HTK
   have HL2:=hide hl2
   have HD1:=hide hD1L
   have HDL1:=hide hD1l
   clear hB hg hB1 hB2 hsum hl2 hD1L hD1l hDL hnx hz h17
   generalize D.set (l1.length%16) z=D1 at *
   generalize D.getD (l1.length%16) 0=y at *
   obtain ⟨m,hm⟩:∃ m,m=l1.length%16:=⟨_,rfl⟩
   rw[←hm] at c51 cm n3 n4 n5 n6 hm1 HG2 HB2 hm16
   by_cases h16:m1=16
   ·have z1:((m1:Int)==16)=true:=beq_iff_eq.2 (by omega)
    have hne:(l1.length+1)%16=0:=by omega
    have HF2:=hide (HFL.out hne)
    have HL16:=hide (show (l1++[s[k]]).length%16=0 from HLEN.out.trans hne)
    have HM1:=hide h16
    clear HFL HTK hm hm1 hne HLEN h16
    go_wp2
    go_region
    go_wp2_with fail
    refine (EP.out D1 m1 _ HD1.out (by rw[HM1.out];decide) HDL1.out HB2.out).mono ?_
    rintro e w3 ⟨rfl,⟨D2,hF2,hv2,hB3⟩,hG3⟩
    rw[HM1.out] at hv2
    have HSUM:=hide (HF2.out D2 hF2 hv2)
    have HG3:=hide (HG2.out.trans hG3)
    have HB3:=hide hB3
    clear hF2 hv2 hB3 hG3 HF2 HB2 HG2 c51 cm hf n1 n2 n3 n4 n5 n6 z1 hm16
    go_wp2
    go_roundw
    case rel=>exact ⟨k+1,by omega,by go_num,⟨D2,by rw[HL2.out];exact HSUM.out,by rw[HL2.out,HL16.out];exact HB3.out⟩,HG3.out⟩
    case measure=>simp[intOf];omega
   ·have z1:((m1:Int)==16)=false:=beq_eq_false_iff_ne.2 (by omega)
    have hne:(l1.length+1)%16≠0:=by omega
    have HSUM:=hide (HTK.out hne)
    have HL16:=hide (show (l1++[s[k]]).length%16=m1 from HLEN.out.trans (by omega))
    clear HFL HTK hm hm1 hne HLEN h16
    go_wp2
    go_region
    go_wp2
    go_roundw
    case rel=>exact ⟨k+1,by omega,by go_num,⟨D1,by rw[HL2.out];exact HSUM.out,by rw[HL2.out,HL16.out];exact HB2.out⟩,HG2.out⟩
    case measure=>simp[intOf];omega
  ·go_wp2
   go_end0
   rw[List.take_of_length_le (by rw[HSZ.out];omega)] at hsum hB
   exact ⟨rfl,⟨D,hsum,hB⟩,hg⟩
set_option maxRecDepth 100000 in
set_option maxHeartbeats 1600000 in
theorem twoRounds_any (x0:List Nat) (w:World) (o0:Cha.Ok x0):
  Calls Tryz.prog 126 #[.agg (u32V x0).toArray] w fun e w'=>e = .returned (.agg (u32V (Cha.diags (Cha.cols x0 4) 4)).toArray)∧Below w.heap.size w w':=by
 obtain ⟨x1,d1⟩:∃ x,x=Cha.quarter x0 0 4 8 12:=⟨_,rfl⟩
 have o1:Cha.Ok x1:=by rw[d1];exact o0.quarter 0 4 8 12 (by decide) (by decide) (by decide) (by decide)
 have Q1:=hide (fun w=>quarter_any x0 0 4 8 12 w o0 (by decide) (by decide) (by decide) (by decide) (by decide) (by decide) (by decide) (by decide) (by decide) (by decide) )
 rw[←d1] at Q1
 obtain ⟨x2,d2⟩:∃ x,x=Cha.quarter x1 1 5 9 13:=⟨_,rfl⟩
 have o2:Cha.Ok x2:=by rw[d2];exact o1.quarter 1 5 9 13 (by decide) (by decide) (by decide) (by decide)
 have Q2:=hide (fun w=>quarter_any x1 1 5 9 13 w o1 (by decide) (by decide) (by decide) (by decide) (by decide) (by decide) (by decide) (by decide) (by decide) (by decide) )
 rw[←d2] at Q2
 obtain ⟨x3,d3⟩:∃ x,x=Cha.quarter x2 2 6 10 14:=⟨_,rfl⟩
 have o3:Cha.Ok x3:=by rw[d3];exact o2.quarter 2 6 10 14 (by decide) (by decide) (by decide) (by decide)
 have Q3:=hide (fun w=>quarter_any x2 2 6 10 14 w o2 (by decide) (by decide) (by decide) (by decide) (by decide) (by decide) (by decide) (by decide) (by decide) (by decide) )
 rw[←d3] at Q3
 obtain ⟨x4,d4⟩:∃ x,x=Cha.quarter x3 3 7 11 15:=⟨_,rfl⟩
 have o4:Cha.Ok x4:=by rw[d4];exact o3.quarter 3 7 11 15 (by decide) (by decide) (by decide) (by decide)
 have Q4:=hide (fun w=>quarter_any x3 3 7 11 15 w o3 (by decide) (by decide) (by decide) (by decide) (by decide) (by decide) (by decide) (by decide) (by decide) (by decide) )
 rw[←d4] at Q4
 obtain ⟨x5,d5⟩:∃ x,x=Cha.quarter x4 0 5 10 15:=⟨_,rfl⟩
 have o5:Cha.Ok x5:=by rw[d5];exact o4.quarter 0 5 10 15 (by decide) (by decide) (by decide) (by decide)
 have Q5:=hide (fun w=>quarter_any x4 0 5 10 15 w o4 (by decide) (by decide) (by decide) (by decide) (by decide) (by decide) (by decide) (by decide) (by decide) (by decide) )
 rw[←d5] at Q5
 obtain ⟨x6,d6⟩:∃ x,x=Cha.quarter x5 1 6 11 12:=⟨_,rfl⟩
 have o6:Cha.Ok x6:=by rw[d6];exact o5.quarter 1 6 11 12 (by decide) (by decide) (by decide) (by decide)
 have Q6:=hide (fun w=>quarter_any x5 1 6 11 12 w o5 (by decide) (by decide) (by decide) (by decide) (by decide) (by decide) (by decide) (by decide) (by decide) (by decide) )
 rw[←d6] at Q6
 obtain ⟨x7,d7⟩:∃ x,x=Cha.quarter x6 2 7 8 13:=⟨_,rfl⟩
 have o7:Cha.Ok x7:=by rw[d7];exact o6.quarter 2 7 8 13 (by decide) (by decide) (by decide) (by decide)
 have Q7:=hide (fun w=>quarter_any x6 2 7 8 13 w o6 (by decide) (by decide) (by decide) (by decide) (by decide) (by decide) (by decide) (by decide) (by decide) (by decide) )
 rw[←d7] at Q7
 obtain ⟨x8,d8⟩:∃ x,x=Cha.quarter x7 3 4 9 14:=⟨_,rfl⟩
 have o8:Cha.Ok x8:=by rw[d8];exact o7.quarter 3 4 9 14 (by decide) (by decide) (by decide) (by decide)
 have Q8:=hide (fun w=>quarter_any x7 3 4 9 14 w o7 (by decide) (by decide) (by decide) (by decide) (by decide) (by decide) (by decide) (by decide) (by decide) (by decide) )
 rw[←d8] at Q8
 have HD:=hide (show Cha.diags (Cha.cols x0 4) 4=x8 by rw[d8,d7,d6,d5,d4,d3,d2,d1];rfl)
 have L0:=hide ((u32V_len x0).trans o0.1)
 have L1:=hide ((u32V_len x1).trans o1.1)
 have L2:=hide ((u32V_len x2).trans o2.1)
 have L3:=hide ((u32V_len x3).trans o3.1)
 have L4:=hide ((u32V_len x4).trans o4.1)
 have L5:=hide ((u32V_len x5).trans o5.1)
 have L6:=hide ((u32V_len x6).trans o6.1)
 have L7:=hide ((u32V_len x7).trans o7.1)
 have L8:=hide ((u32V_len x8).trans o8.1)
 clear d1 d2 d3 d4 d5 d6 d7 d8 o0 o1 o2 o3 o4 o5 o6 o7 o8
 have LZ:=hide ((u32V_len (zeros32 16)).trans (zeros32_len 16))
 go_enter Tryz.func126,Tryz.ntmps126
 go_wp2_with (with_reducible refine wpList_stop (.load 155 (.tmp 1)) rfl ?_)
 refine wpList_letterW (fun w'=>Blk w' w.heap.size 155 (u32V x0)∧Blk w' (w.heap.size+1) 155 (u32V (zeros32 16))∧Below w.heap.size w w'∧w.heap.size+1<w'.heap.size) ⟨(Blk.new rfl rfl).alloc _,Blk.new (by simp) rfl,((Below.refl _ _).alloc (Nat.le_refl _) _).alloc (by simp) _,by simp⟩ ?_
 rintro w0 ⟨hB0,hZ0,hb0,hs0⟩
 go_wp2_with ((with_reducible refine wpList_at (.load 155 (.tmp 1)) rfl ?_);refine wpList_load_row rfl 155 (.tmp 1) rfl w.heap.size rfl 16 150 Tryz.underlying155 info16 (u32V x0) 155 hB0 L0.out ?_)
 refine (Q1.out _).mono ?_
 rintro e v1 ⟨rfl,hv1⟩
 have hC0:=hB0.below hv1 (by omega)
 have hY0:=hZ0.below hv1 (by omega)
 have hc0:=hb0.trans (hv1.mono hb0.size)
 have hz0:=hv1.size
 go_wp2_with (first | ((with_reducible refine wpList_at (.store 155 (.tmp 1) (.tmp 4)) rfl ?_);refine wpList_store_row rfl 155 (.tmp 1) (.tmp 4) rfl w.heap.size rfl 16 info16 (u32V x1) rfl L1.out (u32V_one _) (u32V x0) 155 hC0 L0.out ?_;intro w1 hB1 hG1) | ((with_reducible refine wpList_at (.load 155 (.tmp 1)) rfl ?_);refine wpList_load_row rfl 155 (.tmp 1) rfl w.heap.size rfl 16 150 Tryz.underlying155 info16 (u32V x1) 155 hB1 L1.out ?_))
 have hZ1:=hY0.grown hG1 (by simp)
 have hb1:=hc0.trans (RowKit.Below.of_grown hG1 (Nat.le_refl _) (by omega))
 have hs1:=Nat.lt_of_lt_of_le (Nat.lt_of_lt_of_le hs0 hz0) hG1.size
 clear hB0 hC0 hY0 hZ0 hb0 hc0 hz0 hs0 hG1 hv1 Q1
 refine (Q2.out _).mono ?_
 rintro e v2 ⟨rfl,hv2⟩
 have hC1:=hB1.below hv2 (by omega)
 have hY1:=hZ1.below hv2 (by omega)
 have hc1:=hb1.trans (hv2.mono hb1.size)
 have hz1:=hv2.size
 go_wp2_with (first | ((with_reducible refine wpList_at (.store 155 (.tmp 1) (.tmp 6)) rfl ?_);refine wpList_store_row rfl 155 (.tmp 1) (.tmp 6) rfl w.heap.size rfl 16 info16 (u32V x2) rfl L2.out (u32V_one _) (u32V x1) 155 hC1 L1.out ?_;intro w2 hB2 hG2) | ((with_reducible refine wpList_at (.load 155 (.tmp 1)) rfl ?_);refine wpList_load_row rfl 155 (.tmp 1) rfl w.heap.size rfl 16 150 Tryz.underlying155 info16 (u32V x2) 155 hB2 L2.out ?_))
 have hZ2:=hY1.grown hG2 (by simp)
 have hb2:=hc1.trans (RowKit.Below.of_grown hG2 (Nat.le_refl _) (by omega))
 have hs2:=Nat.lt_of_lt_of_le (Nat.lt_of_lt_of_le hs1 hz1) hG2.size
 clear hB1 hC1 hY1 hZ1 hb1 hc1 hz1 hs1 hG2 hv2 Q2
 refine (Q3.out _).mono ?_
 rintro e v3 ⟨rfl,hv3⟩
 have hC2:=hB2.below hv3 (by omega)
 have hY2:=hZ2.below hv3 (by omega)
 have hc2:=hb2.trans (hv3.mono hb2.size)
 have hz2:=hv3.size
 go_wp2_with (first | ((with_reducible refine wpList_at (.store 155 (.tmp 1) (.tmp 8)) rfl ?_);refine wpList_store_row rfl 155 (.tmp 1) (.tmp 8) rfl w.heap.size rfl 16 info16 (u32V x3) rfl L3.out (u32V_one _) (u32V x2) 155 hC2 L2.out ?_;intro w3 hB3 hG3) | ((with_reducible refine wpList_at (.load 155 (.tmp 1)) rfl ?_);refine wpList_load_row rfl 155 (.tmp 1) rfl w.heap.size rfl 16 150 Tryz.underlying155 info16 (u32V x3) 155 hB3 L3.out ?_))
 have hZ3:=hY2.grown hG3 (by simp)
 have hb3:=hc2.trans (RowKit.Below.of_grown hG3 (Nat.le_refl _) (by omega))
 have hs3:=Nat.lt_of_lt_of_le (Nat.lt_of_lt_of_le hs2 hz2) hG3.size
 clear hB2 hC2 hY2 hZ2 hb2 hc2 hz2 hs2 hG3 hv3 Q3
 refine (Q4.out _).mono ?_
 rintro e v4 ⟨rfl,hv4⟩
 have hC3:=hB3.below hv4 (by omega)
 have hY3:=hZ3.below hv4 (by omega)
 have hc3:=hb3.trans (hv4.mono hb3.size)
 have hz3:=hv4.size
 go_wp2_with (first | ((with_reducible refine wpList_at (.store 155 (.tmp 1) (.tmp 10)) rfl ?_);refine wpList_store_row rfl 155 (.tmp 1) (.tmp 10) rfl w.heap.size rfl 16 info16 (u32V x4) rfl L4.out (u32V_one _) (u32V x3) 155 hC3 L3.out ?_;intro w4 hB4 hG4) | ((with_reducible refine wpList_at (.load 155 (.tmp 1)) rfl ?_);refine wpList_load_row rfl 155 (.tmp 1) rfl w.heap.size rfl 16 150 Tryz.underlying155 info16 (u32V x4) 155 hB4 L4.out ?_))
 have hZ4:=hY3.grown hG4 (by simp)
 have hb4:=hc3.trans (RowKit.Below.of_grown hG4 (Nat.le_refl _) (by omega))
 have hs4:=Nat.lt_of_lt_of_le (Nat.lt_of_lt_of_le hs3 hz3) hG4.size
 clear hB3 hC3 hY3 hZ3 hb3 hc3 hz3 hs3 hG4 hv4 Q4
 refine (Q5.out _).mono ?_
 rintro e v5 ⟨rfl,hv5⟩
 have hC4:=hB4.below hv5 (by omega)
 have hY4:=hZ4.below hv5 (by omega)
 have hc4:=hb4.trans (hv5.mono hb4.size)
 have hz4:=hv5.size
 go_wp2_with (first | ((with_reducible refine wpList_at (.store 155 (.tmp 1) (.tmp 12)) rfl ?_);refine wpList_store_row rfl 155 (.tmp 1) (.tmp 12) rfl w.heap.size rfl 16 info16 (u32V x5) rfl L5.out (u32V_one _) (u32V x4) 155 hC4 L4.out ?_;intro w5 hB5 hG5) | ((with_reducible refine wpList_at (.load 155 (.tmp 1)) rfl ?_);refine wpList_load_row rfl 155 (.tmp 1) rfl w.heap.size rfl 16 150 Tryz.underlying155 info16 (u32V x5) 155 hB5 L5.out ?_))
 have hZ5:=hY4.grown hG5 (by simp)
 have hb5:=hc4.trans (RowKit.Below.of_grown hG5 (Nat.le_refl _) (by omega))
 have hs5:=Nat.lt_of_lt_of_le (Nat.lt_of_lt_of_le hs4 hz4) hG5.size
 clear hB4 hC4 hY4 hZ4 hb4 hc4 hz4 hs4 hG5 hv5 Q5
 refine (Q6.out _).mono ?_
 rintro e v6 ⟨rfl,hv6⟩
 have hC5:=hB5.below hv6 (by omega)
 have hY5:=hZ5.below hv6 (by omega)
 have hc5:=hb5.trans (hv6.mono hb5.size)
 have hz5:=hv6.size
 go_wp2_with (first | ((with_reducible refine wpList_at (.store 155 (.tmp 1) (.tmp 14)) rfl ?_);refine wpList_store_row rfl 155 (.tmp 1) (.tmp 14) rfl w.heap.size rfl 16 info16 (u32V x6) rfl L6.out (u32V_one _) (u32V x5) 155 hC5 L5.out ?_;intro w6 hB6 hG6) | ((with_reducible refine wpList_at (.load 155 (.tmp 1)) rfl ?_);refine wpList_load_row rfl 155 (.tmp 1) rfl w.heap.size rfl 16 150 Tryz.underlying155 info16 (u32V x6) 155 hB6 L6.out ?_))
 have hZ6:=hY5.grown hG6 (by simp)
 have hb6:=hc5.trans (RowKit.Below.of_grown hG6 (Nat.le_refl _) (by omega))
 have hs6:=Nat.lt_of_lt_of_le (Nat.lt_of_lt_of_le hs5 hz5) hG6.size
 clear hB5 hC5 hY5 hZ5 hb5 hc5 hz5 hs5 hG6 hv6 Q6
 refine (Q7.out _).mono ?_
 rintro e v7 ⟨rfl,hv7⟩
 have hC6:=hB6.below hv7 (by omega)
 have hY6:=hZ6.below hv7 (by omega)
 have hc6:=hb6.trans (hv7.mono hb6.size)
 have hz6:=hv7.size
 go_wp2_with (first | ((with_reducible refine wpList_at (.store 155 (.tmp 1) (.tmp 16)) rfl ?_);refine wpList_store_row rfl 155 (.tmp 1) (.tmp 16) rfl w.heap.size rfl 16 info16 (u32V x7) rfl L7.out (u32V_one _) (u32V x6) 155 hC6 L6.out ?_;intro w7 hB7 hG7) | ((with_reducible refine wpList_at (.load 155 (.tmp 1)) rfl ?_);refine wpList_load_row rfl 155 (.tmp 1) rfl w.heap.size rfl 16 150 Tryz.underlying155 info16 (u32V x7) 155 hB7 L7.out ?_))
 have hZ7:=hY6.grown hG7 (by simp)
 have hb7:=hc6.trans (RowKit.Below.of_grown hG7 (Nat.le_refl _) (by omega))
 have hs7:=Nat.lt_of_lt_of_le (Nat.lt_of_lt_of_le hs6 hz6) hG7.size
 clear hB6 hC6 hY6 hZ6 hb6 hc6 hz6 hs6 hG7 hv7 Q7
 refine (Q8.out _).mono ?_
 rintro e v8 ⟨rfl,hv8⟩
 have hC7:=hB7.below hv8 (by omega)
 have hY7:=hZ7.below hv8 (by omega)
 have hc7:=hb7.trans (hv8.mono hb7.size)
 have hz7:=hv8.size
 go_wp2_with (first | ((with_reducible refine wpList_at (.store 155 (.tmp 1) (.tmp 18)) rfl ?_);refine wpList_store_row rfl 155 (.tmp 1) (.tmp 18) rfl w.heap.size rfl 16 info16 (u32V x8) rfl L8.out (u32V_one _) (u32V x7) 155 hC7 L7.out ?_;intro w8 hB8 hG8) | ((with_reducible refine wpList_at (.load 155 (.tmp 1)) rfl ?_);refine wpList_load_row rfl 155 (.tmp 1) rfl w.heap.size rfl 16 150 Tryz.underlying155 info16 (u32V x8) 155 hB8 L8.out ?_) | ((with_reducible refine wpList_at (.store 155 (.tmp 2) (.tmp 19)) rfl ?_);refine wpList_store_row rfl 155 (.tmp 2) (.tmp 19) rfl (w.heap.size+1) rfl 16 info16 (u32V x8) rfl L8.out (u32V_one _) (u32V (zeros32 16)) 155 (hY7.grown hG8 (by simp)) LZ.out ?_;intro w9 hB9 hG9))
 have hb8:=(hc7.trans (RowKit.Below.of_grown hG8 (Nat.le_refl _) (by omega))).trans (RowKit.Below.of_grown hG9 (by omega) (by have:=hG8.size;omega))
 exact ret_rowB Tryz.results126 (w.heap.size+1) rfl 16 150 Tryz.underlying155 info16 (u32V x8) 155 hB9 L8.out rfl ⟨by rw[HD.out],hb8⟩
end Go.Proofs.YtoifalcpfnacnaaGreatDoor
