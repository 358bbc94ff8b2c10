import Derived.Test.YtmjekklgefdolaaGreatDoorWr2
namespace Go.Proofs.YtmjekklgefdolaaGreatDoor
open Go.RowKit
def HRep (w:World) (b:Nat) (t:TypeId) (pre post:List Value) (l:List UInt8):Prop:=
 ∃ blk:List UInt8,blk.length=64∧blk.take (l.length%64)=l.drop (64*(l.length/64))∧Blk w b t (pre++hcells (Sha.comps l (l.length/64)) blk l.length++post)
theorem HRep.lt {w:World} {b:Nat} {t:TypeId} {pre post:List Value} {l:List UInt8} (h:HRep w b t pre post l):b<w.heap.size:=by
 obtain ⟨_,_,_,h⟩:=h
 exact h.lt
theorem HRep.below {w w':World} {b:Nat} {t:TypeId} {pre post:List Value} {l:List UInt8} (h:HRep w b t pre post l) {B:Nat} (hb:Below B w w') (hB:b<B):HRep w' b t pre post l:=by
 obtain ⟨k,h1,h2,h3⟩:=h
 exact ⟨k,h1,h2,h3.below hb hB⟩
theorem take_set_snoc (blk:List UInt8) (j:Nat) (x:UInt8) (h:j<blk.length):(blk.set j x).take (j+1)=blk.take j++[x]:=by
 rw[List.take_succ_eq_append_getElem (by simpa using h),List.take_set_of_le (Nat.le_refl _)]
 simp
theorem takeByte_any (b:Nat) (t:TypeId) (pre post:List Value) (l:List UInt8) (x:UInt8) (w:World)
  (hn:l.length<2 ^ 62) (hb:HRep w b t pre post l) (hk:KTab w) (h2:2≤b):
  Calls Tryz.prog 95 #[.pointer (some ⟨b,pre.length,none⟩),.int .u8 (x.toNat:Nat)] w fun e w'=>e = .returned (.tuple #[]) ∧
   HRep w' b t pre post (l++[x])∧w.grownBy w' (some b):=by
 obtain ⟨blk,hl,ht,hB⟩:=hb
 have hlen:(l++[x]).length=l.length+1:=by simp
 have hc:=Sha.comps_append l [x] (l.length/64) (by omega)
 have hd:(l++[x]).drop (64*(l.length/64))=l.drop (64*(l.length/64))++[x]:=List.drop_append_of_le_length (by omega)
 by_cases hne:(l.length+1)%64=0
 ·refine (takeByte_full b _ t pre post (Sha.comps l (l.length/64)) blk l.length x w rfl hl hn hB hne (Sha.comps_ok _ _) hk h2).mono ?_
  rintro e w' ⟨he,hB',hg⟩
  refine ⟨he,⟨blk.set (l.length%64) x,by simp[hl],?_,?_⟩,hg⟩
  ·rw[hlen,hne,List.take_zero,List.drop_eq_nil_of_le (by rw[hlen];omega)]
  ·have hq:(l.length+1)/64=l.length/64+1:=by omega
   have h63:l.length%64=63:=by omega
   have hblk:blk.set (l.length%64) x=((l++[x]).drop (64*(l.length/64))).take 64:=by
    rw[hd,←ht,←take_set_snoc blk (l.length%64) x (by omega),h63,List.take_of_length_le (by simp[hl]),List.take_of_length_le (by simp[hl])]
   rw[hlen,hq]
   show Blk w' b t (pre++hcells (Sha.comp (Sha.comps (l++[x]) (l.length/64)) (((l++[x]).drop (64*(l.length/64))).take 64)) (blk.set (l.length%64) x) (l.length+1)++post)
   rw[hc,←hblk]
   exact hB'
 ·refine (takeByte_stay b _ t pre post (Sha.comps l (l.length/64)) blk l.length x w rfl hl hn hB hne).mono ?_
  rintro e w' ⟨he,hB',hg⟩
  have hq:(l.length+1)/64=l.length/64:=by omega
  have hm:(l.length+1)%64=l.length%64+1:=by omega
  refine ⟨he,⟨blk.set (l.length%64) x,by simp[hl],?_,?_⟩,hg⟩
  ·rw[hlen,hq,hm,take_set_snoc blk _ x (by omega),hd,ht]
  ·rw[hlen,hq,hc]
   exact hB'
theorem str_at (s:ByteArray) (k:Nat) (h:k<s.size):s.data.toList.take (k+1)=s.data.toList.take k++[s[k]]:=by
 rw[List.take_succ_eq_append_getElem (by simpa using h)];rfl
set_option maxHeartbeats 800000 in
theorem hwrite_any (b:Nat) (t:TypeId) (pre post:List Value) (l:List UInt8) (s:ByteArray) (w:World)
  (hn:l.length+s.size<2 ^ 62) (hb:HRep w b t pre post l) (hk:KTab w) (h2:2≤b):
  Calls Tryz.prog 38 #[.pointer (some ⟨b,pre.length,none⟩),.string s] w fun e w'=>e = .returned (.tuple #[]) ∧
   HRep w' b t pre post (l++s.data.toList)∧w.grownBy w' (some b):=by
 have hsz:s.data.toList.length=s.size:=by rw[Array.length_toList];rfl
 have h2w:2≤w.heap.size:=by have:=hb.lt;omega
 generalize hpo:pre.length=po
 have HPO:=hide hpo
 have HSZ:=hide hsz
 clear hpo hsz
 go_enter Tryz.func38,Tryz.ntmps38
 go_wp2
 go_loopw [4] (fun i wr=>∃ k:Nat,k≤s.size∧i = .int .i64 k∧HRep wr b t pre post (l++s.data.toList.take k)∧w.grownBy wr (some b)) (fun i _=>s.size-(intOf i).toNat)
 case atStart=>exact ⟨0,by omega,rfl,by simpa using hb,World.grownBy.refl _ _⟩
 case round=>
  obtain ⟨k,hks,rfl,hr,hg⟩:=hrel
  by_cases hlt:k<s.size
  ·have hkr:=hk.grown hg h2 h2w
   have e:=str_at s k hlt
   have HE:=hide e
   clear e
   go_wp2_with fail
   rw[←HPO.out]
   refine (takeByte_any b t pre post _ _ _ (by simp;omega) hr hkr h2).mono ?_
   rintro e w1 ⟨rfl,hr1,hg1⟩
   rw[HPO.out]
   go_wp2
   go_roundw
   case rel=>exact ⟨k+1,by omega,by go_num,by rw[HE.out,←List.append_assoc];exact hr1,hg.trans hg1⟩
   case measure=>simp[intOf];omega
  ·go_wp2
   go_end0
   exact ⟨rfl,by rw[List.take_of_length_le (by rw[HSZ.out];omega)] at hr;exact hr,hg⟩
theorem HRep.count {w:World} {b:Nat} {t:TypeId} {pre post:List Value} {l:List UInt8} (h:HRep w b t pre post l):w.cell? ⟨b,pre.length+72,none⟩=some (.int .u64 (l.length:Nat)):=by
 obtain ⟨blk,hl,_,hB⟩:=h
 exact hB.cell (hcells_count _ blk _ hl pre post)
theorem HRep.kt {w w':World} {b:Nat} {t:TypeId} {pre post:List Value} {l:List UInt8} (h:HRep w b t pre post l) (hk:KTab w) (h2:2≤b) (hg:w.grownBy w' (some b)):KTab w':=
 hk.grown hg h2 (by have:=h.lt;omega)
def countAt (w:World) (b o:Nat):Nat:=intOf ((w.cell? ⟨b,o,none⟩).getD (.int .i64 0)) |>.toNat
theorem countAt_of {w:World} {b o n:Nat} (h:w.cell? ⟨b,o,none⟩=some (.int .u64 (n:Nat))):countAt w b o=n:=by
 unfold countAt;rw[h];simp[intOf]
theorem byte_int (n e:Nat):((n:Int)*8/2 ^ e%256)=((UInt8.ofNat (8*n/2 ^ e)).toNat:Nat):=by
 rw[ofNat_mod,Int.natCast_emod,Int.natCast_ediv,Int.natCast_mul,Int.natCast_pow,Int.mul_comm];rfl
theorem be64_at (n k:Nat) (hk:k<8):UInt8.ofNat (n/2 ^ (56-8*k))=(Sha.be64 n).getD k 0∧(Sha.be64 n).take k++[UInt8.ofNat (n/2 ^ (56-8*k))]=(Sha.be64 n).take (k+1):=
 match k,hk with
 | 0,_=>⟨rfl,rfl⟩
 | 1,_=>⟨rfl,rfl⟩
 | 2,_=>⟨rfl,rfl⟩
 | 3,_=>⟨rfl,rfl⟩
 | 4,_=>⟨rfl,rfl⟩
 | 5,_=>⟨rfl,rfl⟩
 | 6,_=>⟨rfl,rfl⟩
 | 7,_=>⟨by simp[Sha.be64],by simp[Sha.be64]⟩
 | n+8,h=>absurd h (by omega)
set_option maxHeartbeats 1600000 in
theorem pad_any (b:Nat) (t:TypeId) (pre post:List Value) (l:List UInt8) (w:World)
  (hn:l.length<2 ^ 59) (hb:HRep w b t pre post l) (hk:KTab w) (h2:2≤b):
  Calls Tryz.prog 96 #[.pointer (some ⟨b,pre.length,none⟩)] w fun e w'=>e = .returned (.tuple #[]) ∧
   HRep w' b t pre post (Sha.padded l)∧w.grownBy w' (some b):=by
 have c0:=hb.count
 have h2w:2≤w.heap.size:=by have:=hb.lt;omega
 have hgap:=gap_lt l.length
 generalize hpo:pre.length=po at *
 have HPO:=hide hpo
 clear hpo
 go_enter Tryz.func96,Tryz.ntmps96
 go_wp2_with fail
 rw[←HPO.out]
 refine (takeByte_any b t pre post l 128 _ (by omega) hb hk h2).mono ?_
 rintro e w1 ⟨rfl,hr1,hg1⟩
 rw[HPO.out]
 go_wp2
 go_loopw [] (fun wr=>∃ j:Nat,j≤Sha.gap l.length∧HRep wr b t pre post (l++[128]++Sha.zeros j)∧w.grownBy wr (some b)) (fun wr=>l.length+100-countAt wr b (po+72))
 case atStart=>exact ⟨0,by omega,by simpa [Sha.zeros] using hr1,hg1⟩
 case round=>
  clear c0 hr1 hg1
  obtain ⟨j,hj,hr,hg⟩:=hrel
  have hkr:=hb.kt hk h2 hg
  have c1:=hr.count
  rw[HPO.out] at c1
  have hlen:(l++[128]++Sha.zeros j).length=l.length+1+j:=by simp[Sha.zeros];omega
  rw[hlen] at c1
  by_cases hlt:j<Sha.gap l.length
  ·have hne:=gap_more l.length j hlt
   have t1:((((l.length+1+j:Nat):Int)%64) != 56)=true:=by rw[bne_iff_ne];omega
   generalize hX:l.length+1+j=X at *
   have HX:=hide hX
   have HL:=hide hlen
   have hXb:X<2 ^ 60:=by omega
   have hjx:l.length+100-X ≥ 36:=by omega
   clear hX hlen hne
   go_wp2_with fail
   rw[←HPO.out]
   refine (takeByte_any b t pre post _ 0 _ (by rw[HL.out];omega) hr hkr h2).mono ?_
   rintro e w3 ⟨rfl,hr3,hg3⟩
   rw[HPO.out]
   go_wp2
   go_roundw
   case rel=>exact ⟨j+1,by omega,by rw[List.append_assoc,zeros_snoc] at hr3;exact hr3,hg.trans hg3⟩
   case measure=>
    have c3:=hr3.count
    rw[HPO.out] at c3
    rw[countAt_of c3,countAt_of c1]
    have:=HX.out
    have:=HL.out
    simp only[List.length_append,List.length_cons,List.length_nil] at *
    omega
  ·have hjg:j=Sha.gap l.length:=by omega
   have hne:=gap_end l.length
   rw[←hjg] at hne
   have t1:((((l.length+1+j:Nat):Int)%64) != 56)=false:=by rw[bne_eq_false_iff_eq];omega
   generalize hX:l.length+1+j=X at *
   have hXb:X<2 ^ 60:=by omega
   have HX:=hide hX
   have HL:=hide hlen
   have HJ:=hide hjg
   clear hX hlen hne hjg
   go_wp2
   clear t1 c1
   go_loopw [3] (fun v wr=>∃ k m:Nat,m+8*k=64∧v = .int .u32 (m:Nat)∧HRep wr b t pre post (l++[128]++Sha.zeros j++(Sha.be64 (8*l.length)).take k)∧w.grownBy wr (some b)) (fun v _=>(intOf v).toNat)
   case atStart=>exact ⟨0,64,by omega,rfl,by simpa using hr,hg⟩
   case round=>
    clear hr hg hkr
    obtain ⟨k,m,hmk,rfl,hr,hg⟩:=hrel
    have hkr:=hb.kt hk h2 hg
    by_cases hlt2:0<m
    ·have hb8:=be64_at (8*l.length) k (by omega)
     have HB8:=hide hb8
     clear hb8
     go_wp2_with fail
     rw[←HPO.out,byte_int l.length (m-8),show m-8=56-8*k by omega]
     refine (takeByte_any b t pre post _ _ _ (by rw[List.length_append,HL.out];have:=List.length_take_le k (Sha.be64 (8*l.length));omega) hr hkr h2).mono ?_
     rintro e w3 ⟨rfl,hr3,hg3⟩
     rw[HPO.out,←byte_int l.length (56-8*k)]
     go_wp2
     go_roundw
     case rel=>exact ⟨k+1,m-8,by omega,by go_num,by rw[List.append_assoc,HB8.out.2] at hr3;exact hr3,hg.trans hg3⟩
     case measure=>simp[intOf];omega
    ·have h8:k=8:=by omega
     have hm0:m=0:=by omega
     subst hm0
     go_wp2
     go_end0
     refine ⟨rfl,?_,hg⟩
     rw[h8,HJ.out] at hr
     exact hr
theorem h0_take (k:Nat) (hk:k<8):i64V (Sha.H0.list.take k)++[.int .i64 (Sha.wAt Sha.H0.list k:Nat)]=i64V (Sha.H0.list.take (k+1)):=
 match k,hk with
 | 0,_=>rfl
 | 1,_=>rfl
 | 2,_=>rfl
 | 3,_=>rfl
 | 4,_=>rfl
 | 5,_=>rfl
 | 6,_=>rfl
 | 7,_=>rfl
 | n+8,h=>absurd h (by omega)
theorem out_take (st:Sha.St) (k:Nat) (hk:k<8):(Sha.out st).take (4*k)++Sha.be4 (Sha.wAt st.list k)=(Sha.out st).take (4*(k+1)):=
 match k,hk with
 | 0,_=>rfl
 | 1,_=>rfl
 | 2,_=>rfl
 | 3,_=>rfl
 | 4,_=>rfl
 | 5,_=>rfl
 | 6,_=>rfl
 | 7,_=>rfl
 | n+8,h=>absurd h (by omega)
theorem extract_list (P:List UInt8) (a b:Nat):(ByteArray.extract ⟨P.toArray⟩ a b).data.toList=(P.drop a).take (b-a):=by
 rw[ByteArray.data_extract]
 simp
theorem extract_size (P:List UInt8) (a b:Nat) (h:a≤b) (hb:b≤P.length):(ByteArray.extract ⟨P.toArray⟩ a b).size=b-a:=by
 rw[ByteArray.size_extract]
 have:(ByteArray.mk P.toArray).size=P.length:=by simp[ByteArray.size]
 omega
theorem _root_.Go.World.ownsRow.mono' {w:World} {base base':Nat} {e:TypeId} {size:Nat} {v:Value} {n:Nat} {xs:List Value} (h:w.ownsRow base e size v n xs) (hb:base'≤base):w.ownsRow base' e size v n xs:=by
 refine ⟨h.1,?_⟩
 rcases h.2 with hn | ⟨g,cap,cur,rfl,hg,r⟩
 ·exact .inl hn
 ·exact .inr ⟨g,cap,cur,rfl,Nat.le_trans hb hg,r⟩
theorem new_sz {w:World} {b:Nat} {o:Obj} (h:b≤w.heap.size):b≤(w.alloc o).heap.size:=by simp;omega
theorem stage {w w0 w1:World} {B B2 gh:Nat} {v:Value} {n:Nat} {xs:List Value} {ch:List Value} {o:Obj} (hr:Row w B2 5 1 v n xs) (S:BlkM w gh 3 ch∧B2≤w.heap.size∧Below B w0 w) (hgh:gh<B2) (hB:B≤B2)
  (hg:(w.alloc o).grownBy w1 v.ownBlock):BlkM w1 gh 3 ch∧B2≤w1.heap.size∧Below B w0 w1:=by
 obtain ⟨h1,h2,h3⟩:=S
 refine ⟨(h1.alloc o).grown hg (fun e=>by have:=(hr.lt gh e.symm).1;omega),?_,Below.grown (h3.alloc (by omega) o) hg (by simp;omega) (fun k hk=>Nat.le_trans hB (hr.lt k hk).1)⟩
 have:=hg.size
 simp at this;omega
set_option maxRecDepth 100000 in
set_option maxHeartbeats 2000000 in
theorem refSum_any (s:ByteArray) (w:World) (hs:s.size≤1099511627):
  Calls Tryz.prog 15 #[.string s] w fun e w'=>e = .returned (.string ⟨(Sha.sum s.data.toList).toArray⟩)∧Below w.heap.size w w':=by
 have hlen:s.data.toList.length=s.size:=by rw[Array.length_toList];rfl
 have hplen:=Sha.padded_len s.data.toList
 have hpmod:=Sha.padded_mod s.data.toList
 have hgl:=gap_lt s.data.toList.length
 have hsum:Sha.sum s.data.toList=Sha.out (Sha.comps (Sha.padded s.data.toList) ((Sha.padded s.data.toList).length/64)):=rfl
 go_enter Tryz.func15,Tryz.ntmps15
 go_wp2_with fail
 refine (padded_any s _ hs).mono ?_
 rintro e w0 ⟨rfl,hbe0⟩
 generalize Sha.padded s.data.toList=P at *
 have hPb:P.length≤1099511800:=by omega
 have HS:=hide hsum
 have HM:=hide hpmod
 clear hsum hpmod hplen hgl hlen
 go_wp2
 go_loopw [4,5] (fun v i wr=>∃ k:Nat,k≤8∧i = .int .i64 k∧wr.ownsRow w.heap.size 3 1 v k (i64V (Sha.H0.list.take k))∧Below w.heap.size w wr) (fun _ i _=>8-(intOf i).toNat)
 case atStart=>exact ⟨0,by omega,rfl,World.ownsRow_nil _ _ _ _,hbe0⟩
 case round=>
  clear hbe0
  obtain ⟨k,hk,rfl,hown,hbe⟩:=hrel
  have hsz:=hbe.size
  by_cases hlt:k<8
  ·go_wp2_with fail
   refine (refH_any k _ hlt).mono ?_
   rintro e w1 ⟨rfl,rfl⟩
   go_wp2_with (at_builtin;refine wpList_append_int rfl (.tmp 18) (.tmp 20) rfl w.heap.size _ k _ rfl (hown.alloc _) _ _ rfl (World.cell?_alloc_at _ _ _ _ rfl) ?_ ?_ ?_;omega;(simp;omega);intro v1 w2 hown1 hg1)
   go_roundw
   case rel=>
    refine ⟨k+1,by omega,by go_num,?_,Below.grown (hbe.alloc hsz _) hg1 (by simp;omega) (fun k hk=>(hown.lt k hk).1)⟩
    rw[h0_take k hlt] at hown1
    exact hown1
   case measure=>simp[intOf];omega
  ·have h8:k=8:=by omega
   rw[h8] at hown
   clear h8
   go_wp2
   go_loopw [4,7] (fun v i wr=>∃ k q:Nat,q=64*k∧q≤P.length∧i = .int .i64 ((q:Nat):Int)∧wr.ownsRow w.heap.size 3 1 v 8 (i64V (Sha.comps P k).list)∧Below w.heap.size w wr) (fun _ i _=>P.length-(intOf i).toNat)
   case atStart=>exact ⟨0,0,rfl,by omega,rfl,hown,hbe⟩
   case round=>
    clear hown hbe hsz
    obtain ⟨m,q,hq,hm,rfl,hown,hbe⟩:=hrel
    have HQ:=hide hq
    clear hq
    have hsz:=hbe.size
    by_cases hlt2:q<P.length
    ·have hnx:q+64≤P.length:=by have:=HM.out;have:=HQ.out;omega
     go_wp2_with fail
     refine (compress_any (Sha.comps P m) _ w.heap.size _ _ (by rw[extract_size _ _ _ (by omega) hnx];omega) (Sha.comps_ok P m) hown).mono ?_
     rintro e w3 ⟨v3,rfl,hown3,hbe3⟩
     rw[extract_list] at hown3
     rw[show q+64-q=64 by omega,HQ.out] at hown3
     go_wp2
     go_roundw
     case rel=>exact ⟨m+1,q+64,by have:=HQ.out;omega,by omega,by go_num,World.ownsRow.mono' hown3 hsz,hbe.trans (hbe3.mono hsz)⟩
     case measure=>simp[intOf];omega
    ·have hmm:m=P.length/64:=by have:=HM.out;have:=HQ.out;omega
     rw[hmm] at hown
     clear hmm
     have hok:=Sha.comps_ok P (P.length/64)
     generalize hN:P.length/64=N at *
     have HNN:=hide hN
     clear hN
     obtain ⟨gh,caph,ch,rfl,hcaph,hghb,hBh,hlh,hth⟩:=own_blk hown (by omega)
     have hghl:=hBh.lt
     obtain ⟨B2,hB2⟩:∃ B2,B2=wr.heap.size:=⟨_,rfl⟩
     have hghB:gh<B2:=by omega
     have hB2w:w.heap.size≤B2:=by omega
     have hBh0:=hBh.marked
     have hs0:B2≤wr.heap.size:=by omega
     clear hBh hown hsz hB2 hghl
     go_wp2
     go_loopw [8,9] (fun v i wr=>∃ j:Nat,j≤8∧i = .int .i64 j∧Row wr B2 5 1 v (4*j) (u8L ((Sha.out (Sha.comps P N)).take (4*j)))∧BlkM wr gh 3 ch∧B2≤wr.heap.size∧Below w.heap.size w wr) (fun _ i _=>8-(intOf i).toNat)
     case atStart=>exact ⟨0,by omega,rfl,Row.nil _ _ _ _,hBh0,hs0,hbe⟩
     case round=>
      clear hBh0 hbe hs0
      obtain ⟨j,hj,rfl,hr0,hBh0,hs0,hbe0⟩:=hrel
      by_cases hlt3:j<8
      ·have c0:=hBh0.cell (take_at hth (i64V_at (Sha.comps P N).list j hlt3))
       have hxl:=ok_at _ hok j hlt3
       have hot:=out_take (Sha.comps P N) j hlt3
       generalize hx0:Sha.wAt (Sha.comps P N).list j=x at *
       have hxa:=i64V_at (Sha.comps P N).list j hlt3
       rw[hx0] at hxa
       have HX:=hide hxa
       have HOT:=hide hot
       clear hot hxa hx0
       have jc:(j:Int)<8:=by omega
       have S0:BlkM wr gh 3 ch∧B2≤wr.heap.size∧Below w.heap.size w wr:=⟨hBh0,hs0,hbe0⟩
       go_wp2_with (first | (at_builtin;refine wpList_append_u8 rfl (.tmp 39) (.tmp 46) rfl B2 _ (4*j) _ rfl (hr0.alloc _) _ 1 1 [UInt8.ofNat (x/2 ^ 24)] rfl rfl (one_news ?_ (World.cell?_alloc_at _ _ _ _ rfl)) ?_ ?_ ?_;(rw[ofNat_mod];omega);omega;exact new_sz S0.2.1;intro v1 w1 hr1 hg1 hat1;have S1:=stage hr0 S0 hghB hB2w hg1;have c1:=S1.1.cell (take_at hth HX.out);clear hg1 hat1) | (at_builtin;refine wpList_append_u8 rfl (.tmp 48) (.tmp 55) rfl B2 _ (4*j+1) _ rfl (hr1.alloc _) _ 1 1 [UInt8.ofNat (x/2 ^ 16)] rfl rfl (one_news ?_ (World.cell?_alloc_at _ _ _ _ rfl)) ?_ ?_ ?_;(rw[ofNat_mod];omega);omega;exact new_sz S1.2.1;intro v2 w2 hr2 hg2 hat2;have S2:=stage hr1 S1 hghB hB2w hg2;have c2:=S2.1.cell (take_at hth HX.out);clear hg2 hat2) | (at_builtin;refine wpList_append_u8 rfl (.tmp 57) (.tmp 64) rfl B2 _ (4*j+1+1) _ rfl (hr2.alloc _) _ 1 1 [UInt8.ofNat (x/2 ^ 8)] rfl rfl (one_news ?_ (World.cell?_alloc_at _ _ _ _ rfl)) ?_ ?_ ?_;(rw[ofNat_mod];omega);omega;exact new_sz S2.2.1;intro v3 w3 hr3 hg3 hat3;have S3:=stage hr2 S2 hghB hB2w hg3;have c3:=S3.1.cell (take_at hth HX.out);clear hg3 hat3) | (at_builtin;refine wpList_append_u8 rfl (.tmp 66) (.tmp 72) rfl B2 _ (4*j+1+1+1) _ rfl (hr3.alloc _) _ 1 1 [UInt8.ofNat (x/2 ^ 0)] rfl rfl (one_news ?_ (World.cell?_alloc_at _ _ _ _ rfl)) ?_ ?_ ?_;(rw[ofNat_mod];omega);omega;exact new_sz S3.2.1;intro v4 w4 hr4 hg4 hat4;have S4:=stage hr3 S3 hghB hB2w hg4;have c4:=S4.1.cell (take_at hth HX.out);clear hg4 hat4))
       go_roundw
       case rel=>
        refine ⟨j+1,by omega,by go_num,?_,S4.1,S4.2.1,S4.2.2⟩
        rw[List.append_assoc,List.append_assoc,List.append_assoc] at hr4
        rw[show [UInt8.ofNat (x/2 ^ 24)]++([UInt8.ofNat (x/2 ^ 16)]++([UInt8.ofNat (x/2 ^ 8)]++[UInt8.ofNat (x/2 ^ 0)]))=Sha.be4 x by simp[Sha.be4],HOT.out] at hr4
        exact hr4
       case measure=>simp[intOf];omega
      ·have h8:j=8:=by omega
       subst h8
       obtain ⟨g4,cap4,rfl,hcv⟩:=Row.str hr0 (by omega)
       go_wp2
       go_ret
       refine ⟨?_,hbe0⟩
       rw[HS.out]
       rfl
def z64:List UInt8:=List.replicate 64 0
set_option maxRecDepth 100000 in
set_option maxHeartbeats 800000 in
theorem begin_any (w:World) (hH:HTab w):
  Calls Tryz.prog 37 #[] w fun e w'=>e = .returned (.pointer (some ⟨w.heap.size,0,none⟩))∧HRep w' w.heap.size 135 [] [] []∧Below w.heap.size w w':=by
 have c0:w.cell? ⟨0,0,none⟩=some (.int .u32 (Sha.H0.a:Nat)):=hH 0 (by omega)
 have c1:w.cell? ⟨0,1,none⟩=some (.int .u32 (Sha.H0.b:Nat)):=hH 1 (by omega)
 have c2:w.cell? ⟨0,2,none⟩=some (.int .u32 (Sha.H0.c:Nat)):=hH 2 (by omega)
 have c3:w.cell? ⟨0,3,none⟩=some (.int .u32 (Sha.H0.d:Nat)):=hH 3 (by omega)
 have c4:w.cell? ⟨0,4,none⟩=some (.int .u32 (Sha.H0.e:Nat)):=hH 4 (by omega)
 have c5:w.cell? ⟨0,5,none⟩=some (.int .u32 (Sha.H0.f:Nat)):=hH 5 (by omega)
 have c6:w.cell? ⟨0,6,none⟩=some (.int .u32 (Sha.H0.g:Nat)):=hH 6 (by omega)
 have c7:w.cell? ⟨0,7,none⟩=some (.int .u32 (Sha.H0.h:Nat)):=hH 7 (by omega)
 go_enter Tryz.func37,Tryz.ntmps37
 go_wp2
 go_ret
 refine ⟨rfl,⟨z64,rfl,rfl,?_⟩,(Below.refl _ _).alloc (Nat.le_refl _) _⟩
 exact Blk.new rfl rfl
theorem infoHash:(Tryz.prog.info? 135).map (·.size)=some 73:=by kernel_rfl
theorem hcells_one (s:Sha.St) (blk:List UInt8) (n:Nat):∀ v ∈ hcells s blk n,v.oneCell'=true:=by
 intro v hv
 unfold hcells at hv
 rcases List.mem_append.1 hv with h | h
 ·rcases List.mem_append.1 h with h | h
  ·exact u32V_one _ v h
  ·obtain ⟨x,_,rfl⟩:=List.mem_map.1 h
   rfl
 ·rw[List.mem_singleton.1 h];rfl
theorem hcells_range {w:World} {b:Nat} {t:TypeId} {pre post:List Value} {s:Sha.St} {blk:List UInt8} {n:Nat} (hl:blk.length=64) (h:Blk w b t (pre++hcells s blk n++post)):w.rangeAt b pre.length (hcells s blk n):=by
 have:=h.range pre.length 73
 rw[List.append_assoc,List.drop_left,List.take_left' (hcells_len _ _ _ hl)] at this
 exact this
def zst:Sha.St:=⟨0,0,0,0,0,0,0,0⟩
set_option maxRecDepth 100000 in
set_option maxHeartbeats 800000 in
theorem copy_any (b:Nat) (t:TypeId) (pre post:List Value) (l:List UInt8) (w:World) (hb:HRep w b t pre post l):
  Calls Tryz.prog 59 #[.pointer (some ⟨b,pre.length,none⟩)] w fun e w'=>e = .returned (.pointer (some ⟨w.heap.size,0,none⟩))∧HRep w' w.heap.size 135 [] [] l∧Below w.heap.size w w':=by
 obtain ⟨blk,hl,ht,hB⟩:=hb
 have hr:=hcells_range hl hB
 have hsz:(Tryz.prog.info? 135).map (·.size)=some (hcells (Sha.comps l (l.length/64)) blk l.length).length:=by rw[infoHash,hcells_len _ _ _ hl]
 have hfin:∀ w',Blk w' w.heap.size 135 (hcells (Sha.comps l (l.length/64)) blk l.length)→HRep w' w.heap.size 135 [] [] l:=fun w' h=>⟨blk,hl,ht,by simpa using h⟩
 have hcl:=hcells_len (Sha.comps l (l.length/64)) blk l.length hl
 have h1:=hcells_one (Sha.comps l (l.length/64)) blk l.length
 generalize hcells (Sha.comps l (l.length/64)) blk l.length=cs at *
 generalize pre.length=po at *
 have hle:0+cs.toArray.size≤(hcells zst z64 0).length:=by rw[hcells_len zst z64 0 rfl];simp[hcl]
 have hsz2:(Tryz.prog.info? 135).map (·.size)=some cs.toArray.size:=by rw[hsz];simp
 have hla:laidOver (hcells zst z64 0) 0 cs.toArray.toList=cs:=by
  have:=laidOver_all (hcells zst z64 0) cs (by rw[hcl,hcells_len zst z64 0 rfl])
  simpa using this
 have HR:=hide hr
 have HS:=hide hsz
 have HS2:=hide hsz2
 have HLE:=hide hle
 have HF:=hide hfin
 have H1:=hide h1
 have HLA:=hide hla
 clear hr hsz hsz2 hle hfin h1 hla hcl hB ht hl
 go_enter Tryz.func59,Tryz.ntmps59
 go_wp2_with (first | (refine wpList_load_mid rfl 135 (.tmp 5) rfl b po rfl cs _ HR.out Tryz.underlying135 rfl HS.out ?_) | (refine wpList_store_blk rfl 135 (.tmp 3) (.tmp 6) rfl w.heap.size 0 cs.toArray rfl rfl HS2.out (all_oneCell_toArray H1.out) 135 (hcells zst z64 0) ?_ HLE.out ?_;exact Blk.new rfl rfl;intro w3 hB3 hG3))
 go_ret
 rw[HLA.out] at hB3
 exact ⟨rfl,HF.out _ hB3,((World.grownBy.refl w none).new hG3).none⟩
theorem st_at (s:Sha.St) (j:Nat) (hj:j<8):(u32V s.list)[j]? = some (.int .u32 (Sha.wAt s.list j:Nat)):=u32V_in s.list j hj
theorem four_news {w:World} {x:Nat} {n:Nat} {a b c d:Int} (h1:a=((UInt8.ofNat (x/2 ^ 24)).toNat:Nat)) (h2:b=((UInt8.ofNat (x/2 ^ 16)).toNat:Nat)) (h3:c=((UInt8.ofNat (x/2 ^ 8)).toNat:Nat)) (h4:d=((UInt8.ofNat x).toNat:Nat)) (hn:n=w.heap.size):
  ∀ j u,(u8L (Sha.be4 x))[j]? = some u→(w.alloc (.cells #[.int .u8 a,.int .u8 b,.int .u8 c,.int .u8 d] 5)).cell? ((⟨n,0,none⟩:Addr).add j)=some u:=by
 subst h1 h2 h3 h4 hn
 intro j u hj
 rw[Addr.add_mid,Nat.zero_add,World.cell?_alloc_at _ _ _ _ rfl]
 match j,hj with
 | 0,hj=>exact hj
 | 1,hj=>exact hj
 | 2,hj=>exact hj
 | 3,hj=>exact hj
 | n+4,hj=>simp[u8L,Sha.be4] at hj
set_option maxRecDepth 100000 in
set_option maxHeartbeats 1600000 in
theorem wordBytes_any (s:Sha.St) (w:World) (hs:s.ok):
  Calls Tryz.prog 97 #[.agg (st8 s)] w fun e w'=>e = .returned (.string ⟨(Sha.out s).toArray⟩)∧Below w.heap.size w w':=by
 unfold st8
 go_enter Tryz.func97,Tryz.ntmps97
 go_wp2
 go_loopw [3,4] (fun v i wr=>∃ j:Nat,j≤8∧i = .int .i64 j∧Row wr (w.heap.size+1) 5 1 v (4*j) (u8L ((Sha.out s).take (4*j)))∧Blk wr w.heap.size 131 (u32V s.list)∧w.heap.size+1≤wr.heap.size∧Below w.heap.size w wr) (fun _ i _=>8-(intOf i).toNat)
 case atStart=>
  refine ⟨0,by omega,rfl,⟨rfl,.inr ⟨w.heap.size+1,0,[],rfl,Nat.le_refl _,(Blk.new (by simp) rfl).marked,by omega,by decide,rfl,rfl⟩⟩,(Blk.new rfl rfl).alloc _,by simp,((Below.refl _ _).alloc (Nat.le_refl _) _).alloc (by simp) _⟩
 case round=>
  obtain ⟨j,hj,rfl,hr,hBs,hsz,hbe⟩:=hrel
  by_cases hlt:j<8
  ·have c0:=hBs.cell (st_at s j hlt)
   have hxl:=ok_at s hs j hlt
   have hot:=out_take s j hlt
   generalize Sha.wAt s.list j=x at *
   have HOT:=hide hot
   clear hot
   have jc:(j:Int)<8:=by omega
   go_wp2_with (at_builtin;go_loud (refine wpList_append_u8 rfl (.tmp 14) (.tmp 26) rfl (w.heap.size+1) _ (4*j) _ rfl (hr.alloc _) _ 4 4 (Sha.be4 x) rfl rfl (four_news ?_ ?_ ?_ ?_ rfl) ?_ ?_ ?_;(rw[ofNat_mod];omega);(rw[ofNat_mod];omega);(rw[ofNat_mod];omega);(rw[ofNat_mod];omega);omega;exact new_sz hsz;intro v1 w1 hr1 hg hat))
   go_roundw
   case rel=>
    have hs1:=hg.size
    simp only[World.size_alloc] at hs1
    refine ⟨j+1,by omega,by go_num,?_,(hBs.alloc _).grown hg (fun e=>by have:=(hr.lt _ e.symm).1;omega),by omega,Below.grown (hbe.alloc (by omega) _) hg (by simp;omega) (fun k hk=>by have:=(hr.lt k hk).1;omega)⟩
    rw[HOT.out] at hr1
    exact hr1
   case measure=>simp[intOf];omega
  ·have h8:j=8:=by omega
   subst h8
   obtain ⟨g4,cap4,rfl,hcv⟩:=Row.str hr (by omega)
   go_wp2
   go_ret
   exact ⟨rfl,hbe⟩
set_option maxRecDepth 100000 in
set_option maxHeartbeats 1600000 in
theorem hsum_any (b:Nat) (t:TypeId) (pre post:List Value) (l:List UInt8) (w:World) (hn:l.length<2 ^ 59) (hb:HRep w b t pre post l) (hk:KTab w) (h2:2≤w.heap.size):
  Calls Tryz.prog 39 #[.pointer (some ⟨b,pre.length,none⟩)] w fun e w'=>e = .returned (.string ⟨(Sha.sum l).toArray⟩)∧Below w.heap.size w w':=by
 generalize hpo:pre.length=po at *
 go_enter Tryz.func39,Tryz.ntmps39
 go_wp2_with fail
 rw[←hpo]
 refine (copy_any b t pre post l _ hb).mono ?_
 rintro e w1 ⟨rfl,hr1,hb1⟩
 have hk1:=hk.below hb1 h2
 rw[hpo]
 clear hpo
 go_wp2_with fail
 refine (pad_any w.heap.size 135 [] [] l _ hn hr1 hk1 h2).mono ?_
 rintro e w2 ⟨rfl,hr2,hg2⟩
 have hb2:Below w.heap.size w w2:=hb1.trans (RowKit.Below.of_grown hg2 (Nat.le_refl _) (Nat.le_of_lt hr1.lt))
 obtain ⟨blk,hl,ht,hB⟩:=hr2
 have hrr:=hB.range 0 8
 have hrw:=hcells_at_words (Sha.comps (Sha.padded l) ((Sha.padded l).length/64)) blk (Sha.padded l).length [] []
 rw[show ([]:List Value).length=0 from rfl] at hrw
 rw[hrw] at hrr
 have hsum:Sha.sum l=Sha.out (Sha.comps (Sha.padded l) ((Sha.padded l).length/64)):=rfl
 have hok:=Sha.comps_ok (Sha.padded l) ((Sha.padded l).length/64)
 have hlt:=hB.lt
 generalize Sha.comps (Sha.padded l) ((Sha.padded l).length/64)=st at *
 have HR:=hide hrr
 have HS:=hide hsum
 clear hrr hrw hsum ht hB hl hr1 hg2
 go_wp2_with (first | (go_at_call 97;refine (wordBytes_any st _ hok).mono ?_;rintro e w3 ⟨rfl,hb3⟩) | (refine wpList_load_mid rfl 131 (.tmp 10) rfl w.heap.size 0 rfl (u32V st.list) (.array 8 130) HR.out Tryz.underlying131 rfl (by kernel_rfl) ?_))
 go_ret
 exact ⟨by rw[HS.out];rfl,hb2.trans (hb3.mono (Nat.le_of_lt hlt))⟩
set_option maxHeartbeats 800000 in
theorem shaSum_any (s:ByteArray) (w:World) (hn:s.size<2 ^ 59) (hk:KTab w) (hH:HTab w) (h2:2≤w.heap.size):
  Calls Tryz.prog 14 #[.string s] w fun e w'=>e = .returned (.string ⟨(Sha.sum s.data.toList).toArray⟩)∧Below w.heap.size w w':=by
 go_enter Tryz.func14,Tryz.ntmps14
 go_wp2_with fail
 refine (begin_any _ hH).mono ?_
 rintro e w1 ⟨rfl,hr1,hb1⟩
 have hk1:=hk.below hb1 h2
 have hl1:=hr1.lt
 go_wp2_with fail
 refine (hwrite_any w.heap.size 135 [] [] [] s _ (by simp;omega) hr1 hk1 h2).mono ?_
 rintro e w2 ⟨rfl,hr2,hg2⟩
 have hb2:Below w.heap.size w w2:=hb1.trans (RowKit.Below.of_grown hg2 (Nat.le_refl _) (Nat.le_of_lt hr1.lt))
 have hk2:=hk.below hb2 h2
 have hl2:=hr2.lt
 rw[List.nil_append] at hr2
 go_wp2_with fail
 refine (hsum_any w.heap.size 135 [] [] s.data.toList _ (by rw[Array.length_toList];exact hn) hr2 hk2 (by omega)).mono ?_
 rintro e w3 ⟨rfl,hb3⟩
 go_wp2
 go_ret
 exact ⟨rfl,hb2.trans (hb3.mono (Nat.le_of_lt hl2))⟩
abbrev Tags:=Nat→Nat × Nat
structure Stays (T T':Tags) (w w':World) (S:Nat × Nat→Prop):Prop where
 os:w'.os=w.os
 tape:w'.tape=w.tape
 output:w'.output=w.output
 size:w.heap.size≤w'.heap.size
 tag:∀ g,g<w.heap.size→T' g=T g
 block:∀ g,g<w.heap.size→¬ S (T g)→w'.heap[g]? = w.heap[g]?
theorem Stays.refl (T:Tags) (w:World) (S:Nat × Nat→Prop):Stays T T w w S:=⟨rfl,rfl,rfl,Nat.le_refl _,fun _ _=>rfl,fun _ _ _=>rfl⟩
theorem Stays.trans {T T' T'':Tags} {w w' w'':World} {S:Nat × Nat→Prop} (h:Stays T T' w w' S) (k:Stays T' T'' w' w'' S):Stays T T'' w w'' S:=
 ⟨k.os.trans h.os,k.tape.trans h.tape,k.output.trans h.output,Nat.le_trans h.size k.size,
 fun g hg=>(k.tag g (Nat.lt_of_lt_of_le hg h.size)).trans (h.tag g hg),
 fun g hg hs=>(k.block g (Nat.lt_of_lt_of_le hg h.size) (by rw[h.tag g hg];exact hs)).trans (h.block g hg hs)⟩
theorem Stays.mono {T T':Tags} {w w':World} {S S':Nat × Nat→Prop} (h:Stays T T' w w' S) (hs:∀ c,S c→S' c):Stays T T' w w' S':=
 ⟨h.os,h.tape,h.output,h.size,h.tag,fun g hg hn=>h.block g hg (fun hc=>hn (hs _ hc))⟩
def fresh (T:Tags) (w:World) (c:Nat × Nat):Tags:=fun g=>if g<w.heap.size then T g else c
theorem fresh_old (T:Tags) (w:World) (c:Nat × Nat) (g:Nat) (h:g<w.heap.size):fresh T w c g=T g:=if_pos h
theorem fresh_new (T:Tags) (w:World) (c:Nat × Nat) (g:Nat) (h:w.heap.size≤g):fresh T w c g=c:=if_neg (by omega)
theorem Stays.of_below {T:Tags} {w w':World} {S:Nat × Nat→Prop} (c:Nat × Nat) (h:Below w.heap.size w w'):Stays T (fresh T w c) w w' S:=
 ⟨h.os,h.tape,h.output,h.size,fun g hg=>fresh_old T w c g hg,fun g hg _=>h.block g hg⟩
theorem Stays.of_grown {T:Tags} {w w':World} {S:Nat × Nat→Prop} (c:Nat × Nat) (b:Nat) (h:w.grownBy w' (some b)) (hb:S (T b)):Stays T (fresh T w c) w w' S:=
 ⟨h.os,h.tape,h.output,h.size,fun g hg=>fresh_old T w c g hg,fun g hg hs=>h.block g hg (fun e=>hs (by rw[Option.some.inj e];exact hb))⟩
theorem Stays.drewN {T T':Tags} {w w':World} {S:Nat × Nat→Prop} (h:Stays T T' w w' S) (n:Nat):Stays T T' w (w'.drewN n) S:=⟨h.os,h.tape,h.output,h.size,h.tag,h.block⟩
theorem Stays.below {T T':Tags} {w w':World} {S:Nat × Nat→Prop} {B:Nat} (h:Stays T T' w w' S) (hB:B≤w.heap.size) (h0:∀ g,g<B→T g=(0,0)) (hs:¬ S (0,0)):Below B w w':=
 ⟨h.os,h.tape,h.output,h.size,fun g hg=>h.block g (by omega) (by rw[h0 g hg];exact hs)⟩
def At (T:Tags) (w:World) (c:Nat × Nat) (b:Nat) (t:TypeId) (cs:List Value):Prop:=Blk w b t cs∧T b=c
theorem At.stays {T T':Tags} {w w':World} {S:Nat × Nat→Prop} {c:Nat × Nat} {b:Nat} {t:TypeId} {cs:List Value} (h:At T w c b t cs) (hs:Stays T T' w w' S) (hc:¬ S c):At T' w' c b t cs:=by
 have hl:=h.1.lt
 refine ⟨?_,(hs.tag b hl).trans h.2⟩
 unfold Blk
 rw[hs.block b hl (by rw[h.2];exact hc)]
 exact h.1
def RowT (T:Tags) (w:World) (c:Nat × Nat) (e:TypeId) (size:Nat) (v:Value) (n:Nat) (xs:List Value):Prop:=Row w 0 e size v n xs∧∀ g,v.ownBlock=some g→T g=c
theorem RowT.stays {T T':Tags} {w w':World} {S:Nat × Nat→Prop} {c:Nat × Nat} {e:TypeId} {size:Nat} {v:Value} {n:Nat} {xs:List Value} (h:RowT T w c e size v n xs) (hs:Stays T T' w w' S) (hc:¬ S c):RowT T' w' c e size v n xs:=by
 obtain ⟨⟨h0,h1⟩,h2⟩:=h
 rcases h1 with hn | ⟨g,cap,cur,rfl,hb,hg,r⟩
 ·refine ⟨⟨h0,.inl hn⟩,fun g hg=>?_⟩
  rw[hn.1] at hg
  cases hg
 ·have hl:=hg.lt
  have ht:T g=c:=h2 g rfl
  refine ⟨⟨h0,.inr ⟨g,cap,cur,rfl,hb,?_,r⟩⟩,fun k hk=>?_⟩
  ·obtain ⟨lo,hi,e1,e2⟩:=hg
   exact ⟨lo,hi,by rw[hs.block g hl (by rw[ht];exact hc)];exact e1,e2⟩
  ·have:g=k:=Option.some.inj hk
   subst this
   exact (hs.tag g hl).trans ht
theorem RowT.nil (T:Tags) (w:World) (c:Nat × Nat) (e:TypeId) (size:Nat):RowT T w c e size (.slice none 0 0) 0 []:=⟨Row.nil _ _ _ _,fun g h=>by cases h⟩
def Lst (T:Tags) (w:World) (c:Nat × Nat) (v:Value) (l:List ByteArray):Prop:=
 (v = .slice none 0 0∧l=[])∨∃ g,v = .slice (some ⟨g,0,none⟩) l.length l.length∧At T w c g 9 (strV l)
theorem Lst.stays {T T':Tags} {w w':World} {S:Nat × Nat→Prop} {c:Nat × Nat} {v:Value} {l:List ByteArray} (h:Lst T w c v l) (hs:Stays T T' w w' S) (hc:¬ S c):Lst T' w' c v l:=by
 rcases h with h | ⟨g,h1,h2⟩
 ·exact .inl h
 ·exact .inr ⟨g,h1,h2.stays hs hc⟩
theorem Lst.strs {T:Tags} {w:World} {c:Nat × Nat} {v:Value} {l:List ByteArray} (h:Lst T w c v l):Strs w v l:=by
 rcases h with ⟨rfl,rfl⟩ | ⟨g,rfl,h,_⟩
 ·exact .inl ⟨rfl,_,_,rfl⟩
 ·refine .inr ⟨g,0,_,rfl,fun i x hx=>?_⟩
  rw[Nat.zero_add]
  exact h.cell (by simp[strV,hx])
namespace Cha
def rotl (v n:Nat):Nat:=v%2 ^ (32-n)*2 ^ n+v/2 ^ (32-n)
theorem rotl_lt (v n:Nat) (hn:n≤32) (hv:v<4294967296):rotl v n<4294967296:=by
 unfold rotl
 have hp:2 ^ (32-n)*2 ^ n=4294967296:=by rw[←Nat.pow_add,show 32-n+n=32 by omega]
 have hq:0<2 ^ (32-n):=Nat.two_pow_pos _
 have h1:v/2 ^ (32-n)<2 ^ n:=(Nat.div_lt_iff_lt_mul hq).2 (by rw[Nat.mul_comm,hp];exact hv)
 have h2:v%2 ^ (32-n)+1≤2 ^ (32-n):=Nat.mod_lt _ hq
 have h3:=Nat.mul_le_mul_right (2 ^ n) h2
 rw[hp,Nat.add_mul,Nat.one_mul] at h3
 omega
def add1 (x:List Nat) (a b:Nat):List Nat:=x.set a ((x.getD a 0+x.getD b 0)%4294967296)
def add2 (x:List Nat) (a d n:Nat):List Nat:=x.set d (rotl (x.getD d 0 ^^^ x.getD a 0) n)
def add (x:List Nat) (a b d n:Nat):List Nat:=add2 (add1 x a b) a d n
def quarter (x:List Nat) (a b c d:Nat):List Nat:=add (add (add (add x a b d 16) c d b 12) a b d 8) c d b 7
def Ok (x:List Nat):Prop:=x.length=16∧∀ v ∈ x,v<4294967296
theorem Ok.at {x:List Nat} (h:Ok x) (i:Nat) (hi:i<16):x.getD i 0<4294967296:=by
 rw[List.getD_eq_getElem?_getD,List.getElem?_eq_getElem (by rw[h.1];exact hi)]
 exact h.2 _ (List.getElem_mem _)
theorem Ok.set {x:List Nat} (h:Ok x) (i v:Nat) (hv:v<4294967296):Ok (x.set i v):=⟨by rw[List.length_set];exact h.1,fun u hu=>by
 rcases List.mem_or_eq_of_mem_set hu with h1 | h1
 ·exact h.2 u h1
 ·rw[h1];exact hv⟩
theorem Ok.add1 {x:List Nat} (h:Ok x) (a b:Nat):Ok (Cha.add1 x a b):=h.set _ _ (Nat.mod_lt _ (by decide))
theorem Ok.add2 {x:List Nat} (h:Ok x) (a d n:Nat) (ha:a<16) (hd:d<16) (hn:n≤32):Ok (Cha.add2 x a d n):=h.set _ _ (rotl_lt _ _ hn (Nat.xor_lt_two_pow (n:=32) (h.at d hd) (h.at a ha)))
theorem Ok.add {x:List Nat} (h:Ok x) (a b d n:Nat) (ha:a<16) (hd:d<16) (hn:n≤32):Ok (Cha.add x a b d n):=(h.add1 a b).add2 a d n ha hd hn
theorem Ok.quarter {x:List Nat} (h:Ok x) (a b c d:Nat) (ha:a<16) (hb:b<16) (hc:c<16) (hd:d<16):Ok (Cha.quarter x a b c d):=
 (((h.add a b d 16 ha hd (by decide)).add c d b 12 hc hb (by decide)).add a b d 8 ha hd (by decide)).add c d b 7 hc hb (by decide)
end Cha
set_option maxHeartbeats 400000 in
theorem chaTurn_any (v n:Nat) (w:World) (hv:v<4294967296) (hn:n≤32):
  Calls Tryz.prog 212 #[.int .i64 v,.int .i64 n] w fun e w'=>e = .returned (.int .i64 (Cha.rotl v n:Nat))∧∃ m,w'=w.drewN m:=by
 go_enter Tryz.func212,Tryz.ntmps212
 go_wp2
 go_loop [1,5,6] (fun c p q=>∃ k j P R:Nat,k+j=n∧c = .int .i64 (j:Nat)∧P=pw k∧p = .int .i64 (P:Nat)∧R=pw (32-k)∧q = .int .i64 (R:Nat)) (fun c _ _=>(intOf c).toNat)
 case atStart=>exact ⟨0,n,1,4294967296,by omega,rfl,rfl,rfl,rfl,rfl⟩
 case round=>
  obtain ⟨k,j,P,R,hk,rfl,hP,rfl,hR,rfl⟩:=hrel
  have hb:=pow_small k (by omega)
  have hb2:=pow_small (32-k) (by omega)
  rw[←hP] at hb
  rw[←hR] at hb2
  by_cases hj:0<j
  ·have hj40:j≤40:=by omega
   have hR2:R/2=pw (32-(k+1)):=by
    rw[hR,show 32-k=32-(k+1)+1 by omega,pw,pw,Nat.pow_succ,Nat.mul_div_cancel _ (by decide)]
   have t1:(R:Int).tdiv 2=((R/2:Nat):Int):=by rw[Int.tdiv_eq_ediv_of_nonneg (by omega)];omega
   have HK:=hide hk
   have HP:=hide hP
   have HR2:=hide hR2
   clear hP hR hk hR2
   go_wp2
   go_round
   case rel=>exact ⟨k+1,j-1,2*P,R/2,by have:=HK.out;omega,by go_num,by rw[HP.out,pw,pw,Nat.pow_succ];omega,by go_num,HR2.out,by first | rfl | go_num⟩
   case measure=>simp[intOf];omega
  ·have hj0:j=0:=by omega
   subst hj0
   have hkn:k=n:=by omega
   subst hkn
   have hlt:=Cha.rotl_lt v k hn hv
   have hr:Cha.rotl v k=v%R*P+v/R:=by rw[hP,hR];rfl
   have hR0:0<R:=by rw[hR];exact Nat.two_pow_pos _
   have hd:v/R≤v:=Nat.div_le_self _ _
   rw[hr] at hlt
   have HRR:=hide hr
   clear hP hR hk hr
   have hm:((v:Int)%(R:Int)*(P:Int))=((v%R*P:Nat):Int):=by rw[Int.natCast_mul,Int.natCast_emod]
   have hdd:((v:Int)/(R:Int))=((v/R:Nat):Int):=by rw[Int.natCast_ediv]
   generalize v%R*P=m at *
   generalize v/R=dv at *
   have z1:((R:Int)==0)=false:=beq_eq_false_iff_ne.2 (by omega)
   have z2:(v:Int).tdiv (R:Int)=(dv:Int):=by rw[Int.tdiv_eq_ediv_of_nonneg (by omega)];exact hdd
   have z3:(v:Int).tmod (R:Int)*(P:Int)=(m:Int):=by rw[Int.tmod_eq_emod_of_nonneg (by omega)];exact hm
   go_wp2
   go_quiet (fail)
   go_wp2
   go_ret
   exact ⟨ret_int (by rw[HRR.out];omega),_,rfl⟩
theorem i64V_put (l:List Nat) (i v:Nat):(i64V l).set i (.int .i64 (v:Int))=i64V (l.set i v):=by
 unfold i64V
 rw[List.map_set]
theorem i64V_get (l:List Nat) (i:Nat) (h:i<l.length):(i64V l)[i]? = some (.int .i64 ((l.getD i 0:Nat):Int)):=by
 simp[i64V,List.getD,h]
set_option maxRecDepth 100000 in
set_option maxHeartbeats 800000 in
theorem chaAdd_any (g:Nat) (l:List Nat) (a b d n:Nat) (w:World) (hl:Cha.Ok l) (hB:Blk w g 3 (i64V l)) (ha:a<16) (hb:b<16) (hd:d<16) (hn:n≤32):
  Calls Tryz.prog 167 #[.slice (some ⟨g,0,none⟩) 16 16,.int .i64 (a:Nat),.int .i64 (b:Nat),.int .i64 (d:Nat),.int .i64 (n:Nat)] w fun e w'=>e = .returned (.tuple #[])∧Blk w' g 3 (i64V (Cha.add l a b d n))∧w.grownBy w' (some g):=by
 have hlen:=hl.1
 have ca:=hB.cell (i64V_get l a (by omega))
 have cb:=hB.cell (i64V_get l b (by omega))
 have fa:=hB.frozen a
 have xa:=hl.at a ha
 have xb:=hl.at b hb
 have h1:=hl.add1 a b
 have hdef:Cha.add l a b d n=Cha.add2 (Cha.add1 l a b) a d n:=rfl
 have hB1:Blk (w.setCell ⟨g,a,none⟩ (.int .i64 (((l.getD a 0+l.getD b 0)%4294967296:Nat):Int))) g 3 (i64V (Cha.add1 l a b)):=by
  have h:=hB.setCell_same a (.int .i64 (((l.getD a 0+l.getD b 0)%4294967296:Nat):Int))
  rw[i64V_put] at h
  exact h
 generalize Cha.add1 l a b=l1 at *
 generalize l.getD a 0=va at *
 generalize l.getD b 0=vb at *
 have t0:IntKind.i64.wrap ((va:Int)+(vb:Int))=(va:Int)+(vb:Int):=IntWalk.i64_in _ (by omega)
 have t1:((va:Int)+(vb:Int)).tmod 4294967296=(((va+vb)%4294967296:Nat):Int):=by rw[Int.tmod_eq_emod_of_nonneg (by omega)];omega
 generalize (va+vb)%4294967296=vs at *
 have ja:(a:Int)<16:=by omega
 have jb:(b:Int)<16:=by omega
 have jd:(d:Int)<16:=by omega
 have HB1:=hide hB1
 have HG1:=hide (World.grownBy.setCell (World.grownBy.refl w (some g)) a (.int .i64 (vs:Int)))
 have HD:=hide hdef
 have HL1:=hide h1
 clear hB1 hdef hB hl h1 hlen
 go_enter Tryz.func167,Tryz.ntmps167
 go_wp2
 go_region
 go_wp2
 refine wp_letterW (fun w'=>Blk w' g 3 (i64V l1)∧w.grownBy w' (some g)) ⟨HB1.out,HG1.out.drew⟩ ?_
 clear ca cb fa HB1 HG1 t0 t1 xa xb
 rintro wq ⟨hBq,hGq⟩
 have hl1:=HL1.out
 have hlen:=hl1.1
 have ca:=hBq.cell (i64V_get l1 a (by omega))
 have cd:=hBq.cell (i64V_get l1 d (by omega))
 have fd:=hBq.frozen d
 have xa:=hl1.at a ha
 have xd:=hl1.at d hd
 have hxor:l1.getD d 0 ^^^ l1.getD a 0<4294967296:=Nat.xor_lt_two_pow (n:=32) xd xa
 have t2:=i64_xor_nat (l1.getD d 0) (l1.getD a 0) (by omega) (by omega)
 have HT:=hide (fun w=>chaTurn_any (l1.getD d 0 ^^^ l1.getD a 0) n w hxor hn)
 have hB2:Blk (wq.setCell ⟨g,d,none⟩ (.int .i64 ((Cha.rotl (l1.getD d 0 ^^^ l1.getD a 0) n:Nat):Int))) g 3 (i64V (Cha.add2 l1 a d n)):=by
  have h:=hBq.setCell_same d (.int .i64 ((Cha.rotl (l1.getD d 0 ^^^ l1.getD a 0) n:Nat):Int))
  rw[i64V_put] at h
  exact h
 generalize Cha.rotl (l1.getD d 0 ^^^ l1.getD a 0) n=vr at *
 generalize l1.getD d 0 ^^^ l1.getD a 0=vx at *
 generalize l1.getD d 0=vd at *
 generalize l1.getD a 0=va at *
 have HB2:=hide hB2
 have HG2:=hide hGq
 clear hB2 hBq hGq hl1 HL1 hlen
 go_quiet ((go_at_call 212;exact Calls.quiet_of (HT.out _)))
 go_wp2
 go_end0
 rw[HD.out]
 exact ⟨rfl,HB2.out,(HG2.out.drewN _).setCell _ _⟩
def z16:List Nat:=List.replicate 16 0
theorem make16 (w:World):(Instr.makeSlice 24 (.int .i64 16) (.int .i64 16)).run Tryz.prog w = .ok (.slice (some ⟨w.heap.size,0,none⟩) 16 16) (w.alloc (.cells (i64V z16).toArray 3)):=make_ints 16 (by decide) w
theorem splice16 (l:List Nat) (h:l.length=16):splice (i64V z16) 0 (i64V l)=i64V l:=by
 unfold splice
 rw[List.take_zero,List.nil_append,List.drop_eq_nil_of_le (by simp[i64V,h,z16]),List.append_nil]
set_option maxRecDepth 100000 in
set_option maxHeartbeats 800000 in
theorem chaQuarter_any (gs cap:Nat) (l:List Nat) (a b c d:Nat) (w:World) (hl:Cha.Ok l) (hsrc:∀ j v,(i64V l)[j]? = some v→w.cell? ⟨gs,j,none⟩=some v) (ha:a<16) (hb:b<16) (hc:c<16) (hd:d<16):
  Calls Tryz.prog 109 #[.slice (some ⟨gs,0,none⟩) 16 cap,.int .i64 (a:Nat),.int .i64 (b:Nat),.int .i64 (c:Nat),.int .i64 (d:Nat)] w fun e w'=>e = .returned (.slice (some ⟨w.heap.size,0,none⟩) 16 16)∧Blk w' w.heap.size 3 (i64V (Cha.quarter l a b c d))∧Below w.heap.size w w':=by
 have hmk:=make16
 have hlen:(i64V l).length=16:=by simp[i64V,hl.1]
 have hsp:=splice16 l hl.1
 have o1:=hl.add a b d 16 ha hd (by decide)
 have o2:=o1.add c d b 12 hc hb (by decide)
 have o3:=o2.add a b d 8 ha hd (by decide)
 have hdef:Cha.quarter l a b c d=Cha.add (Cha.add (Cha.add (Cha.add l a b d 16) c d b 12) a b d 8) c d b 7:=rfl
 have HL:=hide hlen
 have HSP:=hide hsp
 have HSRC:=hide hsrc
 have HD:=hide hdef
 have O0:=hide hl
 have O1:=hide o1
 have O2:=hide o2
 have O3:=hide o3
 clear hlen hsp hsrc hdef hl o1 o2 o3
 go_enter Tryz.func109,Tryz.ntmps109
 go_wp2_with (refine wpList_copy_splice rfl (.tmp 13) (.tmp 14) 24 24 rfl 3 Tryz.underlying24 infoInt1 _ _ _ _ _ _ rfl rfl w.heap.size 0 (i64V z16) 3 ?_ (i64V l) ?_ ?_ ?_ (i64V_one _) w.heap.size w ?_ (Nat.le_refl _) ?_;exact Blk.new rfl rfl;(rw[HL.out];rfl);exact fun _=>⟨rfl,_,rfl,fun j v hj=>by rw[Addr.add_mid,Nat.zero_add];exact World.cell?_alloc_later _ _ _ (HSRC.out j v hj)⟩;(rw[HL.out];exact Nat.le_refl 16);exact (Below.refl _ _).alloc (Nat.le_refl _) _;intro w1 HB1 hbe1)
 have hB1:Blk w1 w.heap.size 3 (i64V l):=by rw[←HSP.out];exact HB1.out
 have hG1:Below w.heap.size w w1:=hbe1
 clear HB1 hbe1 hmk HSRC
 have H1:=hide (chaAdd_any w.heap.size l a b d 16 w1 O0.out hB1 ha hb hd (by decide))
 have hl1:=hB1.lt
 have HG1:=hide hG1
 clear hB1 hG1
 go_wp2_with fail
 refine H1.out.mono ?_
 rintro e w2 ⟨rfl,hB2,hg2⟩
 have hG2:Below w.heap.size w w2:=HG1.out.trans (RowKit.Below.of_grown hg2 (Nat.le_refl _) (Nat.le_of_lt hl1))
 clear hg2 H1 HG1
 have H2:=hide (chaAdd_any w.heap.size (Cha.add l a b d 16) c d b 12 w2 O1.out hB2 hc hd hb (by decide))
 have hl2:=hB2.lt
 have HG2:=hide hG2
 clear hB2 hG2
 go_wp2_with fail
 refine H2.out.mono ?_
 rintro e w3 ⟨rfl,hB3,hg3⟩
 have hG3:Below w.heap.size w w3:=HG2.out.trans (RowKit.Below.of_grown hg3 (Nat.le_refl _) (Nat.le_of_lt hl2))
 clear hg3 H2 HG2
 have H3:=hide (chaAdd_any w.heap.size (Cha.add (Cha.add l a b d 16) c d b 12) a b d 8 w3 O2.out hB3 ha hb hd (by decide))
 have hl3:=hB3.lt
 have HG3:=hide hG3
 clear hB3 hG3
 go_wp2_with fail
 refine H3.out.mono ?_
 rintro e w4 ⟨rfl,hB4,hg4⟩
 have hG4:Below w.heap.size w w4:=HG3.out.trans (RowKit.Below.of_grown hg4 (Nat.le_refl _) (Nat.le_of_lt hl3))
 clear hg4 H3 HG3
 have H4:=hide (chaAdd_any w.heap.size (Cha.add (Cha.add (Cha.add l a b d 16) c d b 12) a b d 8) c d b 7 w4 O3.out hB4 hc hd hb (by decide))
 have hl4:=hB4.lt
 have HG4:=hide hG4
 clear hB4 hG4
 go_wp2_with fail
 refine H4.out.mono ?_
 rintro e w5 ⟨rfl,hB5,hg5⟩
 have hG5:Below w.heap.size w w5:=HG4.out.trans (RowKit.Below.of_grown hg5 (Nat.le_refl _) (Nat.le_of_lt hl4))
 clear hg5 H4 HG4
 have HB:=hide hB5
 have HG:=hide hG5
 clear hB5 hG5
 go_wp2
 go_ret
 rw[HD.out]
 exact ⟨rfl,HB.out,HG.out⟩
def Cha.number (s:List UInt8) (i:Nat):Nat:=(s.getD i 0).toNat+256*((s.getD (i+1) 0).toNat+256*((s.getD (i+2) 0).toNat+256*(s.getD (i+3) 0).toNat))
theorem Cha.number_lt (s:List UInt8) (i:Nat):Cha.number s i<4294967296:=by
 have h1:=UInt8.toNat_lt (s.getD i 0)
 have h2:=UInt8.toNat_lt (s.getD (i+1) 0)
 have h3:=UInt8.toNat_lt (s.getD (i+2) 0)
 have h4:=UInt8.toNat_lt (s.getD (i+3) 0)
 unfold Cha.number
 omega
theorem byte_at (s:ByteArray) (i:Nat) (h:i<s.size):s[i]=s.data.toList.getD i 0:=by
 have h2:i<s.data.toList.length:=by rw[Array.length_toList];exact h
 rw[List.getD_eq_getElem?_getD,List.getElem?_eq_getElem h2,Array.getElem_toList]
 rfl
set_option maxHeartbeats 800000 in
theorem chaNumber_any (s:ByteArray) (i:Nat) (w:World) (h:i+3<s.size) (hs:s.size<1000000):
  Calls Tryz.prog 166 #[.string s,.int .i64 (i:Nat)] w fun e w'=>e = .returned (.int .i64 (Cha.number s.data.toList i:Nat))∧∃ m,w'=w.drewN m:=by
 obtain ⟨ib,hib⟩:∃ a:Nat,a=i+1:=⟨_,rfl⟩
 obtain ⟨ic,hic⟩:∃ a:Nat,a=i+2:=⟨_,rfl⟩
 obtain ⟨id,hid⟩:∃ a:Nat,a=i+3:=⟨_,rfl⟩
 have i1:i<s.size:=by omega
 have i2:ib<s.size:=by omega
 have i3:ic<s.size:=by omega
 have i4:id<s.size:=by omega
 have q1:IntKind.i64.wrap ((i:Int)+1)=(ib:Int):=(IntWalk.i64_in _ (by omega)).trans (by omega)
 have q2:IntKind.i64.wrap ((i:Int)+2)=(ic:Int):=(IntWalk.i64_in _ (by omega)).trans (by omega)
 have q3:IntKind.i64.wrap ((i:Int)+3)=(id:Int):=(IntWalk.i64_in _ (by omega)).trans (by omega)
 have h1:=UInt8.toNat_lt s[i]
 have h2:=UInt8.toNat_lt s[ib]
 have h3:=UInt8.toNat_lt s[ic]
 have h4:=UInt8.toNat_lt s[id]
 have hdef:Cha.number s.data.toList i=s[i].toNat+256*(s[ib].toNat+256*(s[ic].toNat+256*s[id].toNat)):=by
  rw[byte_at s i i1,byte_at s ib i2,byte_at s ic i3,byte_at s id i4,hib,hic,hid];rfl
 have HD:=hide hdef
 clear hdef hib hic hid h
 go_enter Tryz.func166,Tryz.ntmps166
 go_wp2
 go_quiet (fail)
 go_wp2
 go_ret
 refine ⟨ret_int ?_,_,rfl⟩
 rw[HD.out]
 omega
namespace Cha
def sigma:List UInt8:=[101,120,112,97,110,100,32,51,50,45,98,121,116,101,32,107]
def nums (s:List UInt8) (k:Nat):List Nat:=(List.range k).map fun i=>number s (4*i)
theorem nums_succ (s:List UInt8) (k:Nat):nums s (k+1)=nums s k++[number s (4*k)]:=by simp[nums,List.range_succ]
def state (key nonce:List UInt8) (n:Nat):List Nat:=nums (sigma++key) 12++[n]++nums nonce 3
theorem state_ok (key nonce:List UInt8) (n:Nat) (hn:n<4294967296):Ok (state key nonce n):=by
 refine ⟨by simp[state,nums],fun v hv=>?_⟩
 unfold state nums at hv
 simp only[List.mem_append,List.mem_map,List.mem_singleton] at hv
 rcases hv with (⟨i,_,rfl⟩ | rfl) | ⟨i,_,rfl⟩
 ·exact number_lt _ _
 ·exact hn
 ·exact number_lt _ _
end Cha
theorem i64V_nums (s:List UInt8) (pre:List Nat) (k:Nat):i64V (pre++Cha.nums s k)++[.int .i64 ((Cha.number s (4*k):Nat):Int)]=i64V (pre++Cha.nums s (k+1)):=by
 rw[Cha.nums_succ]
 simp[i64V]
set_option maxRecDepth 100000 in
set_option maxHeartbeats 800000 in
theorem chaState_any (key nonce:ByteArray) (n:Nat) (w:World) (hk:key.size=32) (hn:nonce.size=12):
  Calls Tryz.prog 108 #[.string key,.string nonce,.int .i64 (n:Nat)] w fun e w'=>∃ v,e = .returned v∧w'.ownsRow w.heap.size 3 1 v 16 (i64V (Cha.state key.data.toList nonce.data.toList n))∧Below w.heap.size w w':=by
 obtain ⟨sg,hsg⟩:∃ sg:ByteArray,sg=⟨#[101,120,112,97,110,100,32,51,50,45,98,121,116,101,32,107]⟩:=⟨_,rfl⟩
 have hal:(sg++key).data.toList=Cha.sigma++key.data.toList:=by rw[hsg];simp[ByteArray.data_append,Cha.sigma]
 have haz:(sg++key).size=48:=by
  show (sg++key).data.size=48
  rw[←Array.length_toList,hal,List.length_append,Array.length_toList]
  show 16+key.size=48
  omega
 have j0:¬ 9223372036854775807<sg.size+key.size:=by rw[hsg,hk];decide
 have hdef:Cha.state key.data.toList nonce.data.toList n=Cha.nums (Cha.sigma++key.data.toList) 12++[n]++Cha.nums nonce.data.toList 3:=rfl
 rw[←hal] at hdef
 have N1:=hide (fun i (hi:i+3<48) w=>chaNumber_any (sg++key) i w (by rw[haz];exact hi) (by rw[haz];decide))
 have N2:=hide (fun i (hi:i+3<12) w=>chaNumber_any nonce i w (by rw[hn];exact hi) (by rw[hn];decide))
 have V1:=hide (i64V_nums (sg++key).data.toList)
 have V2:=hide (i64V_nums nonce.data.toList)
 have HD:=hide hdef
 have HSG:=hide hsg
 clear hdef hal haz hsg
 go_enter Tryz.func108,Tryz.ntmps108
 go_wp2
 rw[←HSG.out]
 clear HSG j0
 generalize (sg++key)=all at *
 go_loopw [8,9] (fun v i wr=>∃ k:Nat,k≤12∧i = .int .i64 k∧wr.ownsRow w.heap.size 3 1 v k (i64V ([]++Cha.nums all.data.toList k))∧Below w.heap.size w wr) (fun _ i _=>12-(intOf i).toNat)
 case atStart=>exact ⟨0,by omega,rfl,World.ownsRow_nil _ _ _ _,Below.refl _ _⟩
 case round=>
  obtain ⟨k,hk12,rfl,hown,hbe⟩:=hrel
  have hsz:=hbe.size
  by_cases hlt:k<12
  ·obtain ⟨q,hq⟩:∃ a:Nat,a=4*k:=⟨_,rfl⟩
   have q0:IntKind.i64.wrap (4*(k:Int))=(q:Int):=(IntWalk.i64_in _ (by omega)).trans (by omega)
   have HV:=hide (V1.out [] k)
   rw[←hq] at HV
   have NN:=hide (N1.out q (by omega))
   have jk:(k:Int)<12:=by omega
   clear hq
   generalize Cha.number all.data.toList q=vn at *
   go_wp2_with fail
   refine (NN.out _).mono ?_
   rintro e w1 ⟨rfl,m1,rfl⟩
   go_wp2_with (at_builtin;refine wpList_append_int rfl (.tmp 23) (.tmp 25) rfl w.heap.size _ k _ rfl ((own_drewN hown _).alloc _) wr.heap.size _ rfl new_one ?_ (new_size hsz) ?_;omega;intro v1 w2 hown1 hg1)
   go_roundw
   case rel=>
    rw[HV.out] at hown1
    exact ⟨k+1,by omega,by go_num,hown1,below_append hbe hsz hown hg1⟩
   case measure=>simp[intOf];omega
  ·have hk2:k=12:=by omega
   subst hk2
   rw[List.nil_append] at hown
   go_wp2_with (at_builtin;refine wpList_append_int rfl (.tmp 27) (.tmp 29) rfl w.heap.size _ 12 _ rfl (hown.alloc _) wr.heap.size _ rfl (World.cell?_alloc_at _ _ _ _ rfl) ?_ ?_ ?_;omega;(simp;omega);intro v1 w2 hown1 hg1)
   have hbe2:Below w.heap.size w w2:=Below.grown (hbe.alloc hsz _) hg1 (by simp;omega) (fun k hk=>(hown.lt k hk).1)
   have hown2:w2.ownsRow w.heap.size 3 1 v1 13 (i64V (Cha.nums all.data.toList 12++[n]++Cha.nums nonce.data.toList 0)):=by
    have e:i64V (Cha.nums all.data.toList 12++[n]++Cha.nums nonce.data.toList 0)=i64V (Cha.nums all.data.toList 12)++[.int .i64 (n:Int)]:=by simp[i64V,Cha.nums]
    rw[e]
    exact hown1
   clear hown1 hg1 hown hbe hsz
   generalize Cha.nums all.data.toList 12++[n]=pre at *
   go_loopw [8,11] (fun v i wr=>∃ k r:Nat,k≤3∧r=13+k∧i = .int .i64 k∧wr.ownsRow w.heap.size 3 1 v r (i64V (pre++Cha.nums nonce.data.toList k))∧Below w.heap.size w wr) (fun _ i _=>3-(intOf i).toNat)
   case atStart=>exact ⟨0,13,by omega,rfl,rfl,hown2,hbe2⟩
   case round=>
    obtain ⟨k,r,hk3,hr,rfl,hown,hbe⟩:=hrel
    have hsz:=hbe.size
    clear hown2 hbe2
    by_cases hlt:k<3
    ·obtain ⟨q,hq⟩:∃ a:Nat,a=4*k:=⟨_,rfl⟩
     have q0:IntKind.i64.wrap (4*(k:Int))=(q:Int):=(IntWalk.i64_in _ (by omega)).trans (by omega)
     have HV:=hide (V2.out pre k)
     rw[←hq] at HV
     have NN:=hide (N2.out q (by omega))
     have jk:(k:Int)<3:=by omega
     have HR:=hide hr
     have hr16:r≤16:=by omega
     clear hq hr
     generalize Cha.number nonce.data.toList q=vn at *
     go_wp2_with fail
     refine (NN.out _).mono ?_
     rintro e w1 ⟨rfl,m1,rfl⟩
     go_wp2_with (at_builtin;refine wpList_append_int rfl (.tmp 39) (.tmp 41) rfl w.heap.size _ r _ rfl ((own_drewN hown _).alloc _) wr.heap.size _ rfl new_one ?_ (new_size hsz) ?_;omega;intro v1 w2 hown1 hg1)
     go_roundw
     case rel=>
      rw[HV.out] at hown1
      exact ⟨k+1,r+1,by omega,by rw[HR.out];omega,by go_num,hown1,below_append hbe hsz hown hg1⟩
     case measure=>simp[intOf];omega
    ·have hk2:k=3:=by omega
     subst hk2
     subst hr
     have HO:=hide hown
     have HBE:=hide hbe
     clear hown hbe
     go_wp2
     go_ret
     rw[HD.out]
     exact ⟨_,rfl,HO.out,HBE.out⟩
namespace Cha
def col (x:List Nat) (k:Nat):List Nat:=quarter x k (4+k) (8+k) (12+k)
def diag (x:List Nat) (k:Nat):List Nat:=quarter x k (4+(k+1)%4) (8+(k+2)%4) (12+(k+3)%4)
def cols (x:List Nat):Nat→List Nat
 | 0=>x
 | k+1=>col (cols x k) k
def diags (x:List Nat):Nat→List Nat
 | 0=>x
 | k+1=>diag (diags x k) k
def rounds (x:List Nat):Nat→List Nat
 | 0=>x
 | r+1=>diags (cols (rounds x r) 4) 4
theorem Ok.cols {x:List Nat} (h:Ok x):∀ k,k≤4→Ok (Cha.cols x k)
 | 0,_=>h
 | k+1,hk=>(Ok.cols h k (by omega)).quarter _ _ _ _ (by omega) (by omega) (by omega) (by omega)
theorem Ok.diags {x:List Nat} (h:Ok x):∀ k,k≤4→Ok (Cha.diags x k)
 | 0,_=>h
 | k+1,hk=>(Ok.diags h k (by omega)).quarter _ _ _ _ (by omega) (by omega) (by omega) (by omega)
theorem Ok.rounds {x:List Nat} (h:Ok x):∀ r,Ok (Cha.rounds x r)
 | 0=>h
 | r+1=>((Ok.rounds h r).cols 4 (by omega)).diags 4 (by omega)
def sumW (x s:List Nat) (i:Nat):Nat:=(x.getD i 0+s.getD i 0)%4294967296
def leB (v b:Nat):List UInt8:=(List.range b).map fun j=>UInt8.ofNat (v/256 ^ j)
theorem leB_succ (v b:Nat):leB v (b+1)=leB v b++[UInt8.ofNat (v/256 ^ b)]:=by simp[leB,List.range_succ]
def outs (x s:List Nat) (k:Nat):List UInt8:=(List.range k).flatMap fun i=>leB (sumW x s i) 4
theorem outs_succ (x s:List Nat) (k:Nat):outs x s (k+1)=outs x s k++leB (sumW x s k) 4:=by simp[outs,List.range_succ]
theorem outs_len (x s:List Nat):∀ k,(outs x s k).length=4*k
 | 0=>rfl
 | k+1=>by rw[outs_succ,List.length_append,outs_len x s k];simp[leB];omega
theorem cols_succ (x:List Nat) (k:Nat):cols x (k+1)=quarter (cols x k) k (4+k) (8+k) (12+k):=rfl
theorem diags_succ (x:List Nat) (k:Nat):diags x (k+1)=quarter (diags x k) k (4+(k+1)%4) (8+(k+2)%4) (12+(k+3)%4):=rfl
def block (key nonce:List UInt8) (n:Nat):List UInt8:=outs (rounds (state key nonce n) 10) (state key nonce n) 16
theorem block_len (key nonce:List UInt8) (n:Nat):(block key nonce n).length=64:=outs_len _ _ 16
end Cha
theorem diag_nums (j:Nat) (hj:j<4):∃ s1 r1 ib s2 r2 ic s3 r3 id:Nat,IntKind.i64.wrap ((j:Int)+1)=(s1:Int)∧(s1:Int).tmod 4=(r1:Int)∧IntKind.i64.wrap (4+(r1:Int))=(ib:Int) ∧
  IntKind.i64.wrap ((j:Int)+2)=(s2:Int)∧(s2:Int).tmod 4=(r2:Int)∧IntKind.i64.wrap (8+(r2:Int))=(ic:Int)∧IntKind.i64.wrap ((j:Int)+3)=(s3:Int)∧(s3:Int).tmod 4=(r3:Int)∧IntKind.i64.wrap (12+(r3:Int))=(id:Int) ∧
  s1=j+1∧ib<16∧ic<16∧id<16∧ib=4+(j+1)%4∧ic=8+(j+2)%4∧id=12+(j+3)%4:=by
 refine ⟨j+1,(j+1)%4,4+(j+1)%4,j+2,(j+2)%4,8+(j+2)%4,j+3,(j+3)%4,12+(j+3)%4,?_,?_,?_,?_,?_,?_,?_,?_,?_,rfl,by omega,by omega,by omega,rfl,rfl,rfl⟩
 ·exact (IntWalk.i64_in _ (by omega)).trans (by omega)
 ·rw[Int.tmod_eq_emod_of_nonneg (by omega)];omega
 ·exact (IntWalk.i64_in _ (by omega)).trans (by omega)
 ·exact (IntWalk.i64_in _ (by omega)).trans (by omega)
 ·rw[Int.tmod_eq_emod_of_nonneg (by omega)];omega
 ·exact (IntWalk.i64_in _ (by omega)).trans (by omega)
 ·exact (IntWalk.i64_in _ (by omega)).trans (by omega)
 ·rw[Int.tmod_eq_emod_of_nonneg (by omega)];omega
 ·exact (IntWalk.i64_in _ (by omega)).trans (by omega)
theorem own_cells {w:World} {base:Nat} {v:Value} {n:Nat} {l:List Nat} (h:w.ownsRow base 3 1 v n (i64V l)) (hn:0<n):∃ g cap,v = .slice (some ⟨g,0,none⟩) n cap∧g<w.heap.size∧n≤cap∧cap≤maxLen∧∀ j u,(i64V l)[j]? = some u→w.cell? ⟨g,j,none⟩=some u:=by
 rcases h.2 with ⟨_,h0⟩ | ⟨g,cap,cur,rfl,_,hg,hc,hm,_⟩
 ·omega
 ·refine ⟨g,cap,rfl,(Array.getElem?_eq_some_iff.1 hg).1,hc,hm,fun j u hu=>?_⟩
  have:=h.cells (g:=g) rfl j u hu
  rwa [Addr.add_mid,Nat.zero_add] at this
set_option maxRecDepth 100000 in
set_option maxHeartbeats 3000000 in
theorem chaBlock_any (key nonce:ByteArray) (n:Nat) (w:World) (hk:key.size=32) (hn:nonce.size=12) (hn2:n≤4294967295):
  Calls Tryz.prog 50 #[.string key,.string nonce,.int .i64 (n:Nat)] w fun e w'=>e = .returned (.tuple #[.string ⟨(Cha.block key.data.toList nonce.data.toList n).toArray⟩,.int .i64 0])∧Below w.heap.size w w':=by
 have z1:((key.size:Int) != 32)=false:=by rw[hk];rfl
 have z2:((nonce.size:Int) != 12)=false:=by rw[hn];rfl
 have z3:¬ (n:Int)<0:=by omega
 have z4:¬ (4294967295:Int)<(n:Int):=by omega
 have HST:=hide (chaState_any key nonce n w hk hn)
 have hok:=Cha.state_ok key.data.toList nonce.data.toList n (by omega)
 have hdef:Cha.block key.data.toList nonce.data.toList n=Cha.outs (Cha.rounds (Cha.state key.data.toList nonce.data.toList n) 10) (Cha.state key.data.toList nonce.data.toList n) 16:=rfl
 generalize Cha.state key.data.toList nonce.data.toList n=S at *
 have HD:=hide hdef
 have HOK:=hide hok
 clear hdef hok hk hn hn2
 go_enter Tryz.func50,Tryz.ntmps50
 go_wp2_with fail
 refine HST.out.mono ?_
 rintro e w1 ⟨v,rfl,hown,hb1⟩
 obtain ⟨gs,caps,rfl,hgs,hc1,hc2,hsc⟩:=own_cells hown (by decide)
 have HSC:=hide hsc
 have HB1:=hide hb1
 unfold maxLen at hc2
 clear hown hsc hb1 HST
 go_wp2
 go_loopw [9,10] (fun vx i wr=>∃ k gx cx:Nat,k≤10∧i = .int .i64 k∧vx = .slice (some ⟨gx,0,none⟩) 16 cx∧16≤cx∧cx≤9223372036854775807∧gx<wr.heap.size∧(∀ j u,(i64V (Cha.rounds S k))[j]? = some u→wr.cell? ⟨gx,j,none⟩=some u)∧Below w1.heap.size w1 wr) (fun _ i _=>10-(intOf i).toNat)
 case atStart=>exact ⟨0,gs,caps,by omega,rfl,rfl,hc1,by simpa using hc2,hgs,HSC.out,Below.refl _ _⟩
 case round=>
  obtain ⟨k,gx,cx,hk10,rfl,rfl,hcx1,hcx2,hgx,hX,hbe⟩:=hrel
  have ok1:=HOK.out.rounds k
  by_cases hlt:k<10
  ·have hnext:Cha.rounds S (k+1)=Cha.diags (Cha.cols (Cha.rounds S k) 4) 4:=rfl
   have HN:=hide hnext
   have jk:(k:Int)<10:=by omega
   clear hnext
   generalize Cha.rounds S k=X at *
   have HX:=hide hX
   have HBE:=hide hbe
   have OK1:=hide ok1
   clear hX hbe ok1
   go_wp2
   go_loopw [9,11] (fun vx i wr2=>∃ j gx cx:Nat,j≤4∧i = .int .i64 j∧vx = .slice (some ⟨gx,0,none⟩) 16 cx∧16≤cx∧cx≤9223372036854775807∧gx<wr2.heap.size∧(∀ q u,(i64V (Cha.cols X j))[q]? = some u→wr2.cell? ⟨gx,q,none⟩=some u)∧Below w1.heap.size w1 wr2) (fun _ i _=>4-(intOf i).toNat)
   case atStart=>exact ⟨0,gx,cx,by omega,rfl,rfl,hcx1,hcx2,hgx,HX.out,HBE.out⟩
   case round=>
    clear HX HBE hgx hcx1 hcx2
    obtain ⟨j,gx,cx,hj4,rfl,rfl,hcx1,hcx2,hgx,hX,hbe⟩:=hrel
    have ok2:=OK1.out.cols j hj4
    by_cases hlj:j<4
    ·obtain ⟨ib,hib⟩:∃ a:Nat,a=4+j:=⟨_,rfl⟩
     obtain ⟨ic,hic⟩:∃ a:Nat,a=8+j:=⟨_,rfl⟩
     obtain ⟨id,hid⟩:∃ a:Nat,a=12+j:=⟨_,rfl⟩
     have q1:IntKind.i64.wrap (4+(j:Int))=(ib:Int):=(IntWalk.i64_in _ (by omega)).trans (by omega)
     have q2:IntKind.i64.wrap (8+(j:Int))=(ic:Int):=(IntWalk.i64_in _ (by omega)).trans (by omega)
     have q3:IntKind.i64.wrap (12+(j:Int))=(id:Int):=(IntWalk.i64_in _ (by omega)).trans (by omega)
     have HQ:=hide (chaQuarter_any gx cx (Cha.cols X j) j ib ic id wr ok2 hX (by omega) (by omega) (by omega) (by omega))
     have HC:=hide (show Cha.quarter (Cha.cols X j) j ib ic id=Cha.cols X (j+1) by rw[hib,hic,hid,Cha.cols_succ])
     have HBE:=hide hbe
     have jj:(j:Int)<4:=by omega
     clear hX hbe ok2 hib hic hid
     go_wp2_with fail
     refine HQ.out.mono ?_
     rintro e w3 ⟨rfl,hB3,hb3⟩
     rw[HC.out] at hB3
     have hl3:=hB3.lt
     have HB3:=hide hB3
     have HBE3:=hide (HBE.out.trans (hb3.mono HBE.out.size))
     clear hB3 hb3 HQ HBE
     go_wp2
     go_roundw
     case rel=>exact ⟨j+1,wr.heap.size,16,by omega,by go_num,rfl,by omega,by omega,hl3,fun q u hu=>HB3.out.cell hu,HBE3.out⟩
     case measure=>simp[intOf];omega
    ·have hj:j=4:=by omega
     subst hj
     have HX2:=hide hX
     have HBE:=hide hbe
     have OK2:=hide ok2
     clear hX hbe ok2
     generalize Cha.cols X 4=Y at *
     go_wp2
     go_loopw [9,12] (fun vx i wr2=>∃ j gx cx:Nat,j≤4∧i = .int .i64 j∧vx = .slice (some ⟨gx,0,none⟩) 16 cx∧16≤cx∧cx≤9223372036854775807∧gx<wr2.heap.size∧(∀ q u,(i64V (Cha.diags Y j))[q]? = some u→wr2.cell? ⟨gx,q,none⟩=some u)∧Below w1.heap.size w1 wr2) (fun _ i _=>4-(intOf i).toNat)
     case atStart=>exact ⟨0,gx,cx,by omega,rfl,rfl,hcx1,hcx2,hgx,HX2.out,HBE.out⟩
     case round=>
      clear HX2 HBE hgx hcx1 hcx2
      obtain ⟨j,gx,cx,hj4,rfl,rfl,hcx1,hcx2,hgx,hX,hbe⟩:=hrel
      have ok3:=OK2.out.diags j hj4
      by_cases hlj:j<4
      ·obtain ⟨s1,r1,ib,s2,r2,ic,s3,r3,id,p1,m1,q1,p2,m2,q2,p3,m3,q3,hs1,b1,b2,b3,hib,hic,hid⟩:=diag_nums j hlj
       have HS1:=hide hs1
       clear hs1
       have HQ:=hide (chaQuarter_any gx cx (Cha.diags Y j) j ib ic id wr ok3 hX (Nat.lt_trans hlj (by decide)) b1 b2 b3)
       have HC:=hide (show Cha.quarter (Cha.diags Y j) j ib ic id=Cha.diags Y (j+1) by rw[hib,hic,hid,Cha.diags_succ])
       have HBE:=hide hbe
       have jj:(j:Int)<4:=by omega
       clear hX hbe ok3 hib hic hid
       go_wp2_with fail
       refine HQ.out.mono ?_
       rintro e w3 ⟨rfl,hB3,hb3⟩
       rw[HC.out] at hB3
       have hl3:=hB3.lt
       have HB3:=hide hB3
       have HBE3:=hide (HBE.out.trans (hb3.mono HBE.out.size))
       clear hB3 hb3 HQ HBE
       go_wp2
       go_roundw
       case rel=>
        (repeat apply Exists.intro)
        refine ⟨⟨j+1,wr.heap.size,16,by omega,?_,?_,by omega,by omega,hl3,fun q u hu=>HB3.out.cell hu,HBE3.out⟩,rfl⟩
        ·rw[HS1.out]
        ·rfl
       case measure=>have:=HS1.out;simp[intOf];omega
      ·have hj:j=4:=by omega
       subst hj
       rw[←HN.out] at hX
       have HX3:=hide hX
       have HBE:=hide hbe
       clear hX hbe ok3
       go_wp2
       go_roundw
       case rel=>exact ⟨k+1,gx,cx,by omega,by go_num,rfl,hcx1,hcx2,hgx,HX3.out,HBE.out⟩
       case measure=>simp[intOf];omega
  ·have hk2:k=10:=by omega
   subst hk2
   have hS:∀ j u,(i64V S)[j]? = some u→wr.cell? ⟨gs,j,none⟩=some u:=fun j u hu=>by rw[←HSC.out j u hu];exact hbe.cell hgs
   have hgs2:gs<wr.heap.size:=Nat.lt_of_lt_of_le hgs hbe.size
   have HBW:=hide (HB1.out.trans (hbe.mono HB1.out.size))
   generalize Cha.rounds S 10=X at *
   have HX:=hide hX
   have HS:=hide hS
   have OKX:=hide ok1
   have OU:=hide (Cha.outs_succ X S)
   clear hX hS ok1 hbe HSC HB1
   have hS16:=HOK.out
   have OKS:=hide hS16
   clear hS16
   go_wp2
   refine wp_letterW (fun w'=>(∀ j u,(i64V X)[j]? = some u→w'.cell? ⟨gx,j,none⟩=some u)∧(∀ j u,(i64V S)[j]? = some u→w'.cell? ⟨gs,j,none⟩=some u)∧gx<w'.heap.size∧gs<w'.heap.size∧Below w.heap.size w w') ⟨HX.out,HS.out,hgx,hgs2,HBW.out⟩ ?_
   clear HX HS hgx hgs2 HBW hgs
   rintro wb ⟨hX,hS,hgx,hgs,hbw⟩
   have HX:=hide hX
   have HS:=hide hS
   have HBW:=hide hbw
   clear hX hS hbw
   go_loopw [13,14] (fun vo i w3=>∃ k r:Nat,k≤16∧r=4*k∧i = .int .i64 k∧Row w3 wb.heap.size 5 1 vo r (u8L (Cha.outs X S k))∧Below wb.heap.size wb w3) (fun _ i _=>16-(intOf i).toNat)
   case atStart=>exact ⟨0,0,by omega,rfl,rfl,Row.nil _ _ _ _,Below.refl _ _⟩
   case round=>
    obtain ⟨k,r,hk16,hr,rfl,hrow,hbe⟩:=hrel
    by_cases hlk:k<16
    ·have xk:=OKX.out.at k hlk
     have sk:=OKS.out.at k hlk
     have cx0:wr.cell? ⟨gx,k,none⟩=some (.int .i64 ((X.getD k 0:Nat):Int)):=by rw[hbe.cell hgx];exact HX.out k _ (i64V_get X k (by rw[OKX.out.1];exact hlk))
     have cs0:wr.cell? ⟨gs,k,none⟩=some (.int .i64 ((S.getD k 0:Nat):Int)):=by rw[hbe.cell hgs];exact HS.out k _ (i64V_get S k (by rw[OKS.out.1];exact hlk))
     have hV:Cha.sumW X S k=(X.getD k 0+S.getD k 0)%4294967296:=rfl
     have HOU:=hide (OU.out k)
     generalize X.getD k 0=vx at *
     generalize S.getD k 0=vs at *
     have t0:IntKind.i64.wrap ((vx:Int)+(vs:Int))=(vx:Int)+(vs:Int):=IntWalk.i64_in _ (by omega)
     have t1:((vx:Int)+(vs:Int)).tmod 4294967296=(((vx+vs)%4294967296:Nat):Int):=by rw[Int.tmod_eq_emod_of_nonneg (by omega)];omega
     have hVl:(vx+vs)%4294967296<4294967296:=Nat.mod_lt _ (by decide)
     rw[←hV] at t1 hVl
     generalize Cha.sumW X S k=V at *
     generalize Cha.outs X S k=os at *
     have jk:(k:Int)<16:=by omega
     have jx:(16:Nat)≤cx:=hcx1
     have HROW:=hide hrow
     have HBE:=hide hbe
     have HR:=hide hr
     clear hV hrow hbe hr
     go_wp2
     go_quiet (fail)
     clear t0 t1 cx0 cs0 xk sk
     go_wp2
     go_loopw [13,15,16] (fun vo vv b w4=>∃ j q r2:Nat,j≤4∧b = .int .i64 j∧q=V/256 ^ j∧vv = .int .i64 (q:Nat)∧r2=r+j∧Row w4 wb.heap.size 5 1 vo r2 (u8L (os++Cha.leB V j))∧Below wb.heap.size wb w4) (fun _ _ b _=>4-(intOf b).toNat)
     case atStart=>exact ⟨0,V,r,by omega,rfl,by simp,rfl,rfl,by simpa [Cha.leB] using HROW.out.drewN _,below_drewN HBE.out _⟩
     case round=>
      clear HROW HBE
      obtain ⟨j,q,r2,hj4,rfl,hq,rfl,hr2,hrow,hbe⟩:=hrel
      have hsz:=hbe.size
      by_cases hlj:j<4
      ·have hqV:q≤V:=by rw[hq];exact Nat.div_le_self _ _
       have hq2:q/256=V/256 ^ (j+1):=by rw[hq,Nat.div_div_eq_div_mul,Nat.pow_succ]
       have HLE:=hide (Cha.leB_succ V j)
       rw[←hq] at HLE
       have t3:(q:Int).tmod 256=((q%256:Nat):Int):=by rw[Int.tmod_eq_emod_of_nonneg (by omega)];omega
       have t4:(q:Int).tdiv 256=((q/256:Nat):Int):=by rw[Int.tdiv_eq_ediv_of_nonneg (by omega)];omega
       have t5:((q%256:Nat):Int)%256=((q%256:Nat):Int):=by omega
       have hq2b:q/256≤q:=Nat.div_le_self _ _
       have e8:((q%256:Nat):Int)=(((UInt8.ofNat q).toNat:Nat):Int):=by rw[ofNat_mod]
       have hqm:q%256<256:=Nat.mod_lt _ (by decide)
       have HQ2:=hide hq2
       have HR2:=hide hr2
       have hrs:r2≤100:=by have:=HR.out;omega
       have jj:(j:Int)<4:=by omega
       clear hq hq2 hr2
       generalize q%256=q8 at *
       generalize q/256=qn at *
       have E8:=hide e8
       clear e8
       go_wp2_with (at_builtin;refine wpList_append_u8 rfl (.tmp 90) (.tmp 94) rfl wb.heap.size _ r2 _ rfl (hrow.alloc _) _ 1 1 [UInt8.ofNat q] rfl rfl (one_news E8.out (World.cell?_alloc_at _ _ _ _ rfl)) ?_ ?_ ?_;omega;(simp;omega);intro v1 w5 hr1 hg1 hat1)
       go_roundw
       case rel=>
        (repeat apply Exists.intro)
        refine ⟨⟨j+1,qn,r2+1,by omega,?_,HQ2.out,?_,by rw[HR2.out];omega,?_,?_⟩,rfl⟩
        ·first | rfl | go_num
        ·first | rfl | go_num
        ·rw[HLE.out,←List.append_assoc]
         exact hr1
        ·exact Below.grown (hbe.alloc hsz _) hg1 (by simp;omega) (fun k hk=>(hrow.lt k hk).1)
       case measure=>simp[intOf];omega
      ·have hj:j=4:=by omega
       subst hj
       rw[←HOU.out] at hrow
       have HROW:=hide hrow
       have HBE:=hide hbe
       have HR2:=hide hr2
       clear hrow hbe hr2 hq
       go_wp2
       go_roundw
       case rel=>exact ⟨k+1,r2,by omega,by rw[HR2.out,HR.out];omega,by go_num,HROW.out,HBE.out⟩
       case measure=>simp[intOf];omega
    ·have hk2:k=16:=by omega
     subst hk2
     subst hr
     obtain ⟨g4,cap4,rfl,hcv⟩:=Row.str hrow (by omega)
     have HBE:=hide (HBW.out.trans (hbe.mono HBW.out.size))
     clear hbe hrow
     go_wp2
     refine bodyPost_ret (results_tmp2 rfl _ _ _) rfl ?_
     rw[HD.out]
     exact ⟨rfl,HBE.out⟩
namespace Dig
def val:List Nat→Nat
 | []=>0
 | d::r=>d+256*val r
def Ok (l:List Nat):Prop:=∀ d ∈ l,d<256
theorem val_append:∀ (l m:List Nat),val (l++m)=val l+256 ^ l.length*val m
 | [],m=>by simp[val]
 | d::r,m=>by
  show d+256*val (r++m)=d+256*val r+256 ^ (r.length+1)*val m
  rw[val_append r m,Nat.mul_add,Nat.pow_succ,←Nat.mul_assoc,Nat.mul_comm 256 (256 ^ r.length)]
  omega
theorem val_one (d:Nat):val [d]=d:=by simp[val]
theorem val_snoc (l:List Nat) (d:Nat):val (l++[d])=val l+256 ^ l.length*d:=by rw[val_append,val_one]
theorem val_take (l:List Nat) (i:Nat):val (l.take (i+1))=val (l.take i)+256 ^ i*l.getD i 0:=by
 by_cases h:i<l.length
 ·rw[List.take_succ_eq_append_getElem h,val_snoc,List.length_take,Nat.min_eq_left (Nat.le_of_lt h),List.getD_eq_getElem?_getD,List.getElem?_eq_getElem h]
  rfl
 ·rw[List.take_of_length_le (by omega),List.take_of_length_le (by omega),List.getD_eq_getElem?_getD,List.getElem?_eq_none (by omega)]
  simp
theorem val_all (l:List Nat) (i:Nat) (h:l.length≤i):val (l.take i)=val l:=by rw[List.take_of_length_le h]
theorem Ok.at {l:List Nat} (h:Ok l) (i:Nat):l.getD i 0<256:=by
 by_cases hi:i<l.length
 ·rw[List.getD_eq_getElem?_getD,List.getElem?_eq_getElem hi];exact h _ (List.getElem_mem _)
 ·rw[List.getD_eq_getElem?_getD,List.getElem?_eq_none (by omega)];decide
theorem Ok.snoc {l:List Nat} (h:Ok l) {d:Nat} (hd:d<256):Ok (l++[d]):=fun x hx=>by
 rcases List.mem_append.1 hx with h1 | h1
 ·exact h x h1
 ·rw[List.mem_singleton.1 h1];exact hd
theorem Ok.lt:∀ {l:List Nat},Ok l→val l<256 ^ l.length
 | [],_=>by simp[val]
 | d::r,h=>by
  have h1:d<256:=h d (List.mem_cons_self ..)
  have h2:=Ok.lt (l:=r) (fun x hx=>h x (List.mem_cons_of_mem _ hx))
  show d+256*val r<256 ^ (r.length+1)
  rw[Nat.pow_succ]
  omega
end Dig
def Digs (w:World) (v:Value) (l:List Nat):Prop:=∃ ao cap,v = .slice ao l.length cap∧l.length≤cap∧cap≤maxLen∧∀ i,i<l.length→∃ g o,ao=some ⟨g,o,none⟩∧w.cell? ⟨g,o+i,none⟩=some (.int .i64 ((l.getD i 0:Nat):Int))
theorem Digs.nil (w:World):Digs w (.slice none 0 0) []:=⟨none,0,rfl,Nat.le_refl _,by decide,fun i hi=>absurd hi (Nat.not_lt_zero _)⟩
theorem Digs.below {w w':World} {v:Value} {l:List Nat} (h:Digs w v l) (hb:Below w.heap.size w w'):Digs w' v l:=by
 obtain ⟨ao,cap,h1,h2,h3,h4⟩:=h
 refine ⟨ao,cap,h1,h2,h3,fun i hi=>?_⟩
 obtain ⟨g,o,e1,e2⟩:=h4 i hi
 exact ⟨g,o,e1,by rw[hb.cell (World.block_lt_of_cell? w _ e2)];exact e2⟩
theorem Digs.of_blk {w:World} {g:Nat} {l:List Nat} (h:Blk w g 3 (i64V l)) (n:Nat) (hn:l.length=n) (hm:n≤maxLen):Digs w (.slice (some ⟨g,0,none⟩) n n) l:=
 ⟨_,n,by rw[hn],by omega,hm,fun i hi=>⟨g,0,rfl,by rw[Nat.zero_add];exact h.cell (i64V_get l i hi)⟩⟩
theorem Digs.of_own {w:World} {base:Nat} {v:Value} {n:Nat} {l:List Nat} (h:w.ownsRow base 3 1 v n (i64V l)):Digs w v l:=by
 have hl:l.length=n:=by have:=h.1;simpa [i64V] using this
 rcases h.2 with ⟨rfl,h0⟩ | ⟨g,cap,cur,rfl,_,hg,hc,hm,_⟩
 ·obtain rfl:l=[]:=List.eq_nil_of_length_eq_zero (by omega)
  exact Digs.nil w
 ·refine ⟨_,cap,by rw[hl],by omega,hm,fun i hi=>⟨g,0,rfl,?_⟩⟩
  have:=h.cells (g:=g) rfl i _ (i64V_get l i hi)
  rwa [Addr.add_mid] at this
set_option maxHeartbeats 400000 in
theorem digit_any (v:Value) (l:List Nat) (i:Nat) (w:World) (h:Digs w v l):
  Calls Tryz.prog 168 #[v,.int .i64 (i:Nat)] w fun e w'=>e = .returned (.int .i64 ((l.getD i 0:Nat):Int))∧w'=w:=by
 obtain ⟨ao,cap,rfl,hc,hm,hcell⟩:=h
 unfold maxLen at hm
 by_cases hlt:i<l.length
 ·obtain ⟨g,o,rfl,c0⟩:=hcell i hlt
  generalize l.getD i 0=d at *
  generalize l.length=n at *
  clear hcell
  have j:(i:Int)<(n:Int):=by omega
  go_enter Tryz.func168,Tryz.ntmps168
  go_wp2
  go_ret
  exact ⟨rfl,rfl⟩
 ·have hd:l.getD i 0=0:=by rw[List.getD_eq_getElem?_getD,List.getElem?_eq_none (by omega)];rfl
  rw[hd]
  generalize l.length=n at *
  clear hcell hd
  have j:¬ (i:Int)<(n:Int):=by omega
  go_enter Tryz.func168,Tryz.ntmps168
  go_wp2
  go_ret
  exact ⟨rfl,rfl⟩
def digitsOf (s:List UInt8):List Nat:=s.map (·.toNat)
theorem digitsOf_ok (s:List UInt8):Dig.Ok (digitsOf s):=fun d hd=>by
 obtain ⟨x,_,rfl⟩:=List.mem_map.1 hd
 exact UInt8.toNat_lt x
set_option maxHeartbeats 800000 in
theorem natOf_any (s:ByteArray) (w:World) (hs:s.size≤1000000):
  Calls Tryz.prog 112 #[.string s] w fun e w'=>e = .returned (.slice (some ⟨w.heap.size,0,none⟩) s.size s.size)∧Blk w' w.heap.size 3 (i64V (digitsOf s.data.toList))∧Below w.heap.size w w':=by
 have hmk:=fun w=>make_ints s.size (by omega) w
 have hsl:s.data.toList.length=s.size:=by rw[Array.length_toList];rfl
 go_enter Tryz.func112,Tryz.ntmps112
 go_wp2
 clear hmk
 go_loopw [4] (fun i wr=>∃ k:Nat,k≤s.size∧i = .int .i64 k∧Blk wr w.heap.size 3 (i64V (digitsOf (s.data.toList.take k)++List.replicate (s.size-k) 0))∧Below w.heap.size w wr) (fun i _=>s.size-(intOf i).toNat)
 case atStart=>exact ⟨0,by omega,rfl,Blk.new rfl (by simp[digitsOf,i64V,intV]),(Below.refl _ _).alloc (Nat.le_refl _) _⟩
 case round=>
  obtain ⟨k,hk,rfl,hB,hbe⟩:=hrel
  by_cases hlt:k<s.size
  ·have hkl:k<s.data.toList.length:=by omega
   have hlen:(digitsOf (s.data.toList.take k)).length=k:=by simp[digitsOf];omega
   have hz:=i64V_new (digitsOf (s.data.toList.take k)) (s.size-k) k hlen (by omega)
   have c0:=hB.cell hz
   have f0:=hB.frozen k
   have hset:(i64V (digitsOf (s.data.toList.take k)++List.replicate (s.size-k) 0)).set k (.int .i64 ((s[k].toNat:Nat):Int))=i64V (digitsOf (s.data.toList.take (k+1))++List.replicate (s.size-(k+1)) 0):=by
    rw[i64V_put]
    congr 1
    rw[List.set_append_right _ _ (by omega),hlen,Nat.sub_self,show s.size-k=(s.size-(k+1))+1 by omega,List.replicate_succ,List.set_cons_zero,List.take_succ_eq_append_getElem hkl]
    simp[digitsOf]
    rfl
   have HB2:=hide (show Blk (wr.setCell ⟨w.heap.size,k,none⟩ (.int .i64 ((s[k].toNat:Nat):Int))) w.heap.size 3 (i64V (digitsOf (s.data.toList.take (k+1))++List.replicate (s.size-(k+1)) 0)) by rw[←hset];exact hB.setCell_same k _)
   have HBE:=hide hbe
   have jk:(k:Int)<(s.size:Int):=by omega
   have hb8:=UInt8.toNat_lt s[k]
   have tw:wrap64 ((s[k].toNat:Nat):Int)=((s[k].toNat:Nat):Int):=IntWalk.wrap64_in _ (by omega)
   clear hset hB hbe hz hlen hsl
   go_wp2
   go_roundw
   case rel=>exact ⟨k+1,by omega,by go_num,HB2.out,HBE.out.setCell (by simp) _⟩
   case measure=>simp[intOf];omega
  ·have hk2:k=s.size:=by omega
   have HB2:=hide (show Blk wr w.heap.size 3 (i64V (digitsOf s.data.toList)) by
    rw[hk2,List.take_of_length_le (by omega),Nat.sub_self,List.replicate_zero,List.append_nil] at hB
    exact hB)
   have HBE:=hide hbe
   have jk:¬ (k:Int)<(s.size:Int):=by omega
   clear hB hbe hsl hk2
   go_wp2
   go_ret
   exact ⟨rfl,HB2.out,HBE.out⟩
theorem add_step (A B P c x y va:Nat) (h:va+P*c=A+B):va+P*((c+x+y)%256)+P*256*((c+x+y)/256)=A+P*x+(B+P*y):=by
 have h1:=Nat.mod_add_div (c+x+y) 256
 have h2:P*((c+x+y)%256)+P*256*((c+x+y)/256)=P*(c+x+y):=by
  rw[Nat.mul_assoc,←Nat.mul_add,h1]
 rw[Nat.mul_add,Nat.mul_add] at h2
 omega
set_option maxRecDepth 100000 in
set_option maxHeartbeats 1600000 in
theorem natAdd_any (va vb:Value) (la lb:List Nat) (w:World) (ha:Digs w va la) (hb:Digs w vb lb) (oa:Dig.Ok la) (ob:Dig.Ok lb) (hla:la.length≤1000) (hlb:lb.length≤1000):
  Calls Tryz.prog 113 #[va,vb] w fun e w'=>∃ v,e = .returned v∧∃ l,w'.ownsRow w.heap.size 3 1 v l.length (i64V l)∧Dig.Ok l∧Dig.val l=Dig.val la+Dig.val lb∧l.length=max la.length lb.length+1∧Below w.heap.size w w':=by
 have HA:=hide ha
 have HB:=hide hb
 obtain ⟨aoa,ca,rfl,_,_,_⟩:=ha
 obtain ⟨aob,cb,rfl,_,_,_⟩:=hb
 have OA:=hide oa
 have OB:=hide ob
 have VA:=hide (Dig.val_take la)
 have VB:=hide (Dig.val_take lb)
 have WA:=hide (Dig.val_all la)
 have WB:=hide (Dig.val_all lb)
 have VA0:=hide (show Dig.val (la.take 0)=0 from rfl)
 have VB0:=hide (show Dig.val (lb.take 0)=0 from rfl)
 generalize hna:la.length=na at *
 generalize hnb:lb.length=nb at *
 clear oa ob hna hnb
 go_enter Tryz.func113,Tryz.ntmps113
 go_wp2
 go_loopw [5,6,7] (fun vo vc vi wr=>∃ (i c:Nat) (l:List Nat),i≤max na nb∧vi = .int .i64 (i:Nat)∧vc = .int .i64 (c:Nat)∧c≤1∧l.length=i∧Dig.Ok l∧Dig.val l+256 ^ i*c=Dig.val (la.take i)+Dig.val (lb.take i)∧wr.ownsRow w.heap.size 3 1 vo i (i64V l)∧Below w.heap.size w wr) (fun _ _ i _=>max na nb-(intOf i).toNat)
 case atStart=>exact ⟨0,0,[],by omega,rfl,rfl,by omega,rfl,(fun d hd=>by simp at hd),by rw[VA0.out,VB0.out];rfl,World.ownsRow_nil _ _ _ _,Below.refl _ _⟩
 case round=>
  obtain ⟨i,c,l,hi,rfl,rfl,hc,hl,hok,hval,hown,hbe⟩:=hrel
  by_cases hlt:i<max na nb
  ·have DA:=hide (digit_any _ la i wr (HA.out.below hbe))
   have DB:=hide (digit_any _ lb i wr (HB.out.below hbe))
   have xa:=OA.out.at i
   have xb:=OB.out.at i
   have HST:=hide (add_step (Dig.val (la.take i)) (Dig.val (lb.take i)) (256 ^ i) c (la.getD i 0) (lb.getD i 0) (Dig.val l) hval)
   have HSN:=hide (Dig.val_snoc l ((c+la.getD i 0+lb.getD i 0)%256))
   rw[hl] at HSN
   rw[←VA.out i,←VB.out i] at HST
   generalize la.getD i 0=x at *
   generalize lb.getD i 0=y at *
   have t1:((c:Int)+(x:Int)+(y:Int)).tmod 256=(((c+x+y)%256:Nat):Int):=by rw[Int.tmod_eq_emod_of_nonneg (by omega)];omega
   have t2:((c:Int)+(x:Int)+(y:Int)).tdiv 256=(((c+x+y)/256:Nat):Int):=by rw[Int.tdiv_eq_ediv_of_nonneg (by omega)];omega
   have hq:(c+x+y)/256≤1:=by omega
   have hr:(c+x+y)%256<256:=Nat.mod_lt _ (by decide)
   have HOWN:=hide hown
   have HBE:=hide hbe
   have HOK:=hide hok
   have HL:=hide hl
   clear hval hok hl
   have hsz:=hbe.size
   generalize (c+x+y)%256=rm at *
   generalize (c+x+y)/256=qt at *
   clear hown hbe
   by_cases hia:i<na
   ·have j1:(i:Int)<(na:Int):=by omega
    go_wp2_with fail
    refine DA.out.mono ?_
    rintro e w1 ⟨rfl,rfl⟩
    go_wp2_with fail
    refine DB.out.mono ?_
    rintro e w1 ⟨rfl,rfl⟩
    go_wp2_with (at_builtin;refine wpList_append_int rfl (.tmp 33) (.tmp 36) rfl w.heap.size _ i _ rfl (HOWN.out.alloc _) w1.heap.size _ rfl (World.cell?_alloc_at _ _ _ _ rfl) ?_ ?_ ?_;omega;(simp;omega);intro v1 w2 hown1 hg1)
    go_roundw
    case rel=>
     refine ⟨i+1,qt,l++[rm],by omega,by first | rfl | go_num,by first | rfl | go_num,hq,by simp[HL.out],HOK.out.snoc hr,?_,by simpa [i64V] using hown1,Below.grown (HBE.out.alloc hsz _) hg1 (by simp;omega) (fun k hk=>(HOWN.out.lt k hk).1)⟩
     rw[HSN.out,Nat.pow_succ]
     exact HST.out
    case measure=>simp[intOf];omega
   ·have j1:¬ (i:Int)<(na:Int):=by omega
    have j2:(i:Int)<(nb:Int):=by omega
    go_wp2_with fail
    refine DA.out.mono ?_
    rintro e w1 ⟨rfl,rfl⟩
    go_wp2_with fail
    refine DB.out.mono ?_
    rintro e w1 ⟨rfl,rfl⟩
    go_wp2_with (at_builtin;refine wpList_append_int rfl (.tmp 33) (.tmp 36) rfl w.heap.size _ i _ rfl (HOWN.out.alloc _) w1.heap.size _ rfl (World.cell?_alloc_at _ _ _ _ rfl) ?_ ?_ ?_;omega;(simp;omega);intro v1 w2 hown1 hg1)
    go_roundw
    case rel=>
     refine ⟨i+1,qt,l++[rm],by omega,by first | rfl | go_num,by first | rfl | go_num,hq,by simp[HL.out],HOK.out.snoc hr,?_,by simpa [i64V] using hown1,Below.grown (HBE.out.alloc hsz _) hg1 (by simp;omega) (fun k hk=>(HOWN.out.lt k hk).1)⟩
     rw[HSN.out,Nat.pow_succ]
     exact HST.out
    case measure=>simp[intOf];omega
  ·have j1:¬ (i:Int)<(na:Int):=by omega
   have j2:¬ (i:Int)<(nb:Int):=by omega
   have hsz:=hbe.size
   have HFIN:=hide (show Dig.val (l++[c])=Dig.val la+Dig.val lb by rw[Dig.val_snoc,hl,hval,WA.out i (by omega),WB.out i (by omega)])
   have HOK:=hide (hok.snoc (d:=c) (by omega))
   have HLL:=hide (show (l++[c]).length=max na nb+1 by simp[hl];omega)
   have HL1:=hide (show (l++[c]).length=i+1 by simp[hl])
   clear hval hok
   go_wp2_with (at_builtin;refine wpList_append_int rfl (.tmp 40) (.tmp 42) rfl w.heap.size _ i _ rfl (hown.alloc _) wr.heap.size _ rfl (World.cell?_alloc_at _ _ _ _ rfl) ?_ ?_ ?_;omega;(simp;omega);intro v1 w2 hown1 hg1)
   go_ret
   refine ⟨_,rfl,l++[c],?_,HOK.out,HFIN.out,HLL.out,Below.grown (hbe.alloc hsz _) hg1 (by simp;omega) (fun k hk=>(hown.lt k hk).1)⟩
   rw[HL1.out]
   simpa [i64V] using hown1
namespace Dig
theorem val_set:∀ (l:List Nat) (i d:Nat),i<l.length→val (l.set i d)+256 ^ i*l.getD i 0=val l+256 ^ i*d
 | [],i,d,h=>absurd h (Nat.not_lt_zero _)
 | x::r,0,d,_=>by simp[val];omega
 | x::r,i+1,d,h=>by
  have ih:=val_set r i d (by simpa using h)
  show x+256*val (r.set i d)+256 ^ (i+1)*r.getD i 0=x+256*val r+256 ^ (i+1)*d
  rw[Nat.pow_succ,Nat.mul_comm (256 ^ i) 256,Nat.mul_assoc,Nat.mul_assoc]
  omega
theorem Ok.set {l:List Nat} (h:Ok l) (i:Nat) {d:Nat} (hd:d<256):Ok (l.set i d):=fun x hx=>by
 rcases List.mem_or_eq_of_mem_set hx with h1 | h1
 ·exact h x h1
 ·rw[h1];exact hd
theorem val_zeros (n:Nat):val (List.replicate n 0)=0:=by
 induction n with
 | zero=>rfl
 | succ n ih=>rw[List.replicate_succ];show 0+256*val _=0;rw[ih]
theorem Ok.zeros (n:Nat):Ok (List.replicate n 0):=fun d hd=>by rw[(List.mem_replicate.1 hd).2];decide
theorem getD_zeros (n q:Nat):(List.replicate n 0).getD q 0=0:=by
 rw[List.getD_eq_getElem?_getD]
 by_cases h:q<n
 ·rw[List.getElem?_replicate_of_lt h];rfl
 ·rw[List.getElem?_eq_none (by simp;omega)];rfl
theorem getD_set_ne (l:List Nat) (i q d:Nat) (h:i≠q):(l.set i d).getD q 0=l.getD q 0:=by
 rw[List.getD_eq_getElem?_getD,List.getElem?_set_ne h,←List.getD_eq_getElem?_getD]
theorem times_step {V W P c x t vl vl':Nat} (h:vl+P*c=V) (hs:vl'+P*x=vl+P*(t%256)) (ht:t=c+x+W):vl'+P*256*(t/256)=V+P*W:=by
 have h1:=Nat.mod_add_div t 256
 have h2:P*(t%256)+P*256*(t/256)=P*t:=by rw[Nat.mul_assoc,←Nat.mul_add,h1]
 have h3:P*t=P*c+P*x+P*W:=by rw[ht,Nat.mul_add,Nat.mul_add]
 omega
end Dig
theorem times_val (V k j ai bt bj:Nat):V+256 ^ k*ai*bt+256 ^ (k+j)*(ai*bj)=V+256 ^ k*ai*(bt+256 ^ j*bj):=by
 rw[Nat.mul_add,Nat.add_assoc,Nat.pow_add]
 congr 2
 rw[Nat.mul_assoc,Nat.mul_assoc,←Nat.mul_assoc (256 ^ j) ai bj,Nat.mul_comm (256 ^ j) ai,Nat.mul_assoc]
theorem times_row (A I ai B:Nat):A*B+I*ai*B=(A+I*ai)*B:=by rw[Nat.add_mul]
theorem mul_255 {a b:Nat} (ha:a<256) (hb:b<256):a*b≤65025:=Nat.mul_le_mul (show a≤255 by omega) (show b≤255 by omega)
set_option maxRecDepth 100000 in
set_option maxHeartbeats 1600000 in
theorem natTimes_any (va vb:Value) (la lb:List Nat) (w:World) (ha:Digs w va la) (hb:Digs w vb lb) (oa:Dig.Ok la) (ob:Dig.Ok lb) (hla:la.length≤1000) (hlb:lb.length≤1000):
  Calls Tryz.prog 114 #[va,vb] w fun e w'=>e = .returned (.slice (some ⟨w.heap.size,0,none⟩) (la.length+lb.length+1) (la.length+lb.length+1))∧(∃ l,Blk w' w.heap.size 3 (i64V l)∧l.length=la.length+lb.length+1∧Dig.Ok l∧Dig.val l=Dig.val la*Dig.val lb)∧Below w.heap.size w w':=by
 have HA:=hide ha
 have HB:=hide hb
 obtain ⟨aoa,ca,rfl,hca1,hca2,_⟩:=ha
 obtain ⟨aob,cb,rfl,hcb1,hcb2,_⟩:=hb
 unfold maxLen at hca2 hcb2
 have OA:=hide oa
 have OB:=hide ob
 have VA:=hide (Dig.val_take la)
 have VB:=hide (Dig.val_take lb)
 have WA:=hide (Dig.val_all la)
 have WB:=hide (Dig.val_all lb)
 have VA0:=hide (show Dig.val (la.take 0)=0 from rfl)
 have VB0:=hide (show Dig.val (lb.take 0)=0 from rfl)
 generalize hna:la.length=na at *
 generalize hnb:lb.length=nb at *
 have HNA:=hide hna
 have HNB:=hide hnb
 clear oa ob hna hnb
 obtain ⟨N,hN⟩:∃ N:Nat,N=na+nb+1:=⟨_,rfl⟩
 rw[←hN]
 have hmk:=fun w=>make_ints N (by omega) w
 have t0:IntKind.i64.wrap ((na:Int)+(nb:Int)+1)=(N:Int):=(IntWalk.i64_in _ (by omega)).trans (by omega)
 have t00:IntKind.i64.wrap ((na:Int)+(nb:Int))=(na:Int)+(nb:Int):=IntWalk.i64_in _ (by omega)
 have hNb:N≤3000:=by omega
 have HN:=hide hN
 clear hN
 go_enter Tryz.func114,Tryz.ntmps114
 go_wp2
 clear hmk t0 t00
 go_loopw [6] (fun vi wr=>∃ (k:Nat) (l:List Nat),k≤na∧vi = .int .i64 (k:Nat)∧Blk wr w.heap.size 3 (i64V l)∧l.length=N∧Dig.Ok l∧(∀ q,k+nb≤q→l.getD q 0=0)∧Dig.val l=Dig.val (la.take k)*Dig.val lb∧Below w.heap.size w wr) (fun i _=>na-(intOf i).toNat)
 case atStart=>exact ⟨0,List.replicate N 0,by omega,rfl,Blk.new rfl (by simp[i64V,intV]),by simp,Dig.Ok.zeros N,fun q _=>Dig.getD_zeros N q,by rw[Dig.val_zeros,VA0.out,Nat.zero_mul],(Below.refl _ _).alloc (Nat.le_refl _) _⟩
 case round=>
  obtain ⟨k,l,hk,rfl,hBl,hll,hok,hzero,hval,hbe⟩:=hrel
  by_cases hlt:k<na
  ·obtain ⟨ai,hai⟩:∃ ai:Nat,ai=la.getD k 0:=⟨_,rfl⟩
   obtain ⟨V,hV⟩:∃ V:Nat,V=Dig.val (la.take k)*Dig.val lb:=⟨_,rfl⟩
   have hai2:ai<256:=by rw[hai];exact OA.out.at k
   have HROWV:=hide (show V+256 ^ k*ai*Dig.val lb=Dig.val (la.take (k+1))*Dig.val lb by rw[hV,times_row,VA.out k,←hai])
   have HAI:=hide hai
   rw[←hV] at hval
   have HB0:=hide hBl
   have HVAL:=hide hval
   have HOK0:=hide hok
   have HZ0:=hide hzero
   have HL0:=hide hll
   have HBE0:=hide hbe
   have jk:(k:Int)<(na:Int):=by omega
   clear hai hV hval hBl hok hzero hbe hll
   go_wp2
   go_loopw [7,8] (fun vc vj w2=>∃ (j c:Nat) (l:List Nat),j≤nb∧vj = .int .i64 (j:Nat)∧vc = .int .i64 (c:Nat)∧c<256∧Blk w2 w.heap.size 3 (i64V l)∧l.length=N∧Dig.Ok l∧(∀ q,k+nb≤q→l.getD q 0=0)∧Dig.val l+256 ^ (k+j)*c=V+256 ^ k*ai*Dig.val (lb.take j)∧Below w.heap.size w w2) (fun _ j _=>nb-(intOf j).toNat)
   case atStart=>exact ⟨0,0,l,by omega,rfl,rfl,by decide,HB0.out,HL0.out,HOK0.out,HZ0.out,by rw[VB0.out,HVAL.out,Nat.mul_zero,Nat.mul_zero],HBE0.out⟩
   case round=>
    clear HB0 HOK0 HZ0 HL0 HBE0 HVAL
    obtain ⟨j,c,l,hj,rfl,rfl,hc,hBl,hll,hok,hzero,hval,hbe⟩:=hrel
    obtain ⟨_,_,hda,_,_,hcella⟩:=HA.out.below hbe
    obtain ⟨_,_,hdb,_,_,hcellb⟩:=HB.out.below hbe
    injection hda with e1 f1 f2
    injection hdb with e2 f3 f4
    subst e1 e2
    clear f1 f2 f3 f4
    obtain ⟨ga,offa,rfl,ca0⟩:=hcella k (by rw[HNA.out];exact hlt)
    rw[←HAI.out] at ca0
    by_cases hlj:j<nb
    ·obtain ⟨gb,offb,rfl,cb0⟩:=hcellb j (by rw[HNB.out];exact hlj)
     obtain ⟨sx,hsx⟩:∃ sx:Nat,sx=k+j:=⟨_,rfl⟩
     have hsxN:sx<N:=by have:=HN.out;omega
     have co:=hBl.cell (i64V_get l sx (by omega))
     have fo:=hBl.frozen sx
     have hx:=hok.at sx
     have hbj:=OB.out.at j
     have hpr:=mul_255 hai2 hbj
     have hvs:=Dig.val_set l sx ((c+l.getD sx 0+ai*lb.getD j 0)%256) (by omega)
     rw[←hsx] at hval
     have hst:=Dig.times_step (W:=ai*lb.getD j 0) hval hvs rfl
     rw[hsx,times_val,←VB.out j,Nat.mul_assoc (256 ^ (k+j)) 256,←Nat.mul_assoc,←Nat.pow_succ,←hsx] at hst
     have HST:=hide hst
     have HOK2:=hide (hok.set sx (d:=(c+l.getD sx 0+ai*lb.getD j 0)%256) (Nat.mod_lt _ (by decide)))
     have HZ2:=hide (show ∀ q,k+nb≤q→(l.set sx ((c+l.getD sx 0+ai*lb.getD j 0)%256)).getD q 0=0 from fun q hq=>by rw[Dig.getD_set_ne _ _ _ _ (by omega)];exact hzero q hq)
     have HB2:=hide (show Blk (wr.setCell ⟨w.heap.size,sx,none⟩ (.int .i64 (((c+l.getD sx 0+ai*lb.getD j 0)%256:Nat):Int))) w.heap.size 3 (i64V (l.set sx ((c+l.getD sx 0+ai*lb.getD j 0)%256))) by rw[←i64V_put];exact hBl.setCell_same sx _)
     have hqt:(c+l.getD sx 0+ai*lb.getD j 0)/256<256:=by omega
     have HL2:=hide (show (l.set sx ((c+l.getD sx 0+ai*lb.getD j 0)%256)).length=N by rw[List.length_set];exact hll)
     generalize l.set sx ((c+l.getD sx 0+ai*lb.getD j 0)%256)=l2 at *
     generalize l.getD sx 0=x at *
     generalize lb.getD j 0=bj at *
     have m0:(ai:Int)*(bj:Int)=((ai*bj:Nat):Int):=by rw[Int.natCast_mul]
     have m1:IntKind.i64.wrap ((ai:Int)*(bj:Int))=((ai*bj:Nat):Int):=by rw[m0];exact IntWalk.i64_in _ (by omega)
     generalize ai*bj=pr at *
     have t1:((c:Int)+(x:Int)+(pr:Int)).tmod 256=(((c+x+pr)%256:Nat):Int):=by rw[Int.tmod_eq_emod_of_nonneg (by omega)];omega
     have t2:((c:Int)+(x:Int)+(pr:Int)).tdiv 256=(((c+x+pr)/256:Nat):Int):=by rw[Int.tdiv_eq_ediv_of_nonneg (by omega)];omega
     generalize (c+x+pr)%256=rm at *
     generalize (c+x+pr)/256=qt at *
     have q0:IntKind.i64.wrap ((k:Int)+(j:Int))=(sx:Int):=(IntWalk.i64_in _ (by omega)).trans (by omega)
     have HSX:=hide hsx
     have HBE:=hide hbe
     have jj:(j:Int)<(nb:Int):=by omega
     have js:(sx:Int)<(N:Int):=by omega
     clear hsx hval hvs hst hok hzero hBl hbe hcella hcellb hll
     refine wp_letterW (fun w'=>w'.cell? ⟨w.heap.size,sx,none⟩=some (.int .i64 (x:Int))∧w'=wr) ⟨co,rfl⟩ ?_
     rintro wq ⟨_,rfl⟩
     go_wp2
     go_quiet (fail)
     go_wp2
     go_roundw
     case rel=>
      refine ⟨j+1,qt,l2,by omega,by first | rfl | go_num,rfl,hqt,HB2.out,HL2.out,HOK2.out,HZ2.out,?_,(below_drewN HBE.out nq).setCell (by simp) _⟩
      rw[show k+(j+1)=sx.succ by rw[HSX.out];omega]
      exact HST.out
     case measure=>simp[intOf];omega
    ·have hjn:j=nb:=by omega
     subst hjn
     obtain ⟨sx,hsx⟩:∃ sx:Nat,sx=k+j:=⟨_,rfl⟩
     have hsxN:sx<N:=by have:=HN.out;omega
     have co:=hBl.cell (i64V_get l sx (by omega))
     have fo:=hBl.frozen sx
     have hz0:l.getD sx 0=0:=hzero sx (by omega)
     have hvs:=Dig.val_set l sx c (by omega)
     rw[hz0,Nat.mul_zero,Nat.add_zero] at hvs
     have HST:=hide (show Dig.val (l.set sx c)=Dig.val (la.take (k+1))*Dig.val lb by rw[hvs,←HROWV.out,hsx,hval,WB.out j (Nat.le_refl _)])
     have HOK2:=hide (hok.set sx (d:=c) hc)
     have HZ2:=hide (show ∀ q,k+1+j≤q→(l.set sx c).getD q 0=0 from fun q hq=>by rw[Dig.getD_set_ne _ _ _ _ (by omega)];exact hzero q (by omega))
     have HB2:=hide (show Blk (wr.setCell ⟨w.heap.size,sx,none⟩ (.int .i64 (c:Int))) w.heap.size 3 (i64V (l.set sx c)) by rw[←i64V_put];exact hBl.setCell_same sx _)
     have HL2:=hide (show (l.set sx c).length=N by rw[List.length_set];exact hll)
     generalize l.set sx c=l2 at *
     generalize l.getD sx 0=x at *
     have q0:IntKind.i64.wrap ((k:Int)+(j:Int))=(sx:Int):=(IntWalk.i64_in _ (by omega)).trans (by omega)
     have HBE:=hide hbe
     have js:(sx:Int)<(N:Int):=by omega
     clear hsx hval hvs hok hzero hBl hbe hcella hcellb hll hz0
     go_wp2
     go_roundw
     case rel=>exact ⟨k+1,l2,by omega,by first | rfl | go_num,HB2.out,HL2.out,HOK2.out,HZ2.out,HST.out,HBE.out.setCell (by simp) _⟩
     case measure=>simp[intOf];omega
  ·have hkn:k=na:=by omega
   have HF:=hide (show Dig.val l=Dig.val la*Dig.val lb by rw[hval,WA.out k (by omega)])
   have HB2:=hide hBl
   have HBE:=hide hbe
   have HOK2:=hide hok
   have HL2:=hide hll
   have jk:¬ (k:Int)<(na:Int):=by omega
   clear hval hBl hbe hok hzero hll hkn
   go_wp2
   go_ret
   exact ⟨rfl,⟨l,HB2.out,HL2.out,HOK2.out,HF.out⟩,HBE.out⟩
end Go.Proofs.YtmjekklgefdolaaGreatDoor
