import Derived.Test.YtmjekklgefdolaaGreatDoorWr4
namespace Go.Proofs.YtmjekklgefdolaaGreatDoor
open Go.RowKit
namespace Cha
structure Q4 where
 a:Nat
 b:Nat
 c:Nat
 d:Nat
def Q4.half (q:Q4) (m n:Nat):Q4:=
 let a:=(q.a+q.b)%4294967296
 let d:=rotl (q.d ^^^ a) m
 let c:=(q.c+d)%4294967296
 ⟨a,rotl (q.b ^^^ c) n,c,d⟩
def q4 (x:List Nat) (i j k m:Nat):Q4:=Q4.half (Q4.half ⟨x.getD i 0,x.getD j 0,x.getD k 0,x.getD m 0⟩ 16 12) 8 7
theorem quarter_eq (x:List Nat) (i j k m:Nat) (hx:x.length=16) (hi:i<16) (hj:j<16) (hk:k<16) (hm:m<16)
  (h1:i≠j) (h2:i≠k) (h3:i≠m) (h4:j≠k) (h5:j≠m) (h6:k≠m):
  quarter x i j k m=(((x.set i (q4 x i j k m).a).set j (q4 x i j k m).b).set k (q4 x i j k m).c).set m (q4 x i j k m).d:=by
 refine list_getD (by simp[quarter,add,add1,add2]) fun p hp=>?_
 unfold q4 Q4.half quarter add add1 add2
 have h1':=h1.symm
 have h2':=h2.symm
 have h3':=h3.symm
 have h4':=h4.symm
 have h5':=h5.symm
 have h6':=h6.symm
 simp only[getD_set,List.length_set,hx,hi,hj,hk,hm,h1,h2,h3,h4,h5,h6,h1',h2',h3',h4',h5',h6',if_true,if_false]
 by_cases p1:p=m
 ·subst p1;simp only[h3',h5',h6',if_true,if_false]
 ·by_cases p2:p=k
  ·subst p2;simp only[p1,h2',h4',if_true,if_false]
  ·by_cases p3:p=j
   ·subst p3;simp only[p1,p2,h1',if_true,if_false]
   ·by_cases p4:p=i
    ·subst p4;simp only[p1,p2,p3,if_true,if_false]
    ·simp only[p1,p2,p3,p4,if_false]
theorem take_getD (s:List UInt8) (i j:Nat):(s.take i).getD j 0=if j<i then s.getD j 0 else 0:=by
 rw[List.getD_eq_getElem?_getD,List.getD_eq_getElem?_getD,List.getElem?_take]
 split <;> rfl
theorem nums_len (s:List UInt8) (k:Nat):(nums s k).length=k:=by simp[nums]
theorem nums_at (s:List UInt8) (k i:Nat) (h:i<k):(nums s k).getD i 0=number s (4*i):=by
 rw[List.getD_eq_getElem?_getD,nums,List.getElem?_map,List.getElem?_range h]
 rfl
theorem number_other (s:List UInt8) (i t:Nat) (h:t≠i/4):number (s.take (i+1)) (4*t)=number (s.take i) (4*t):=by
 unfold number
 simp only[take_getD]
 have e (j:Nat) (hj:j≠i):(if j<i+1 then s.getD j 0 else (0:UInt8))=if j<i then s.getD j 0 else 0:=by
  by_cases h1:j<i
  ·rw[if_pos h1,if_pos (by omega)]
  ·rw[if_neg h1,if_neg (by omega)]
 rw[e _ (by omega),e _ (by omega),e _ (by omega),e _ (by omega)]
theorem number_low (s:List UInt8) (i:Nat):number (s.take i) (4*(i/4))<2 ^ (8*(i%4))∧number (s.take (i+1)) (4*(i/4))=(s.getD i 0).toNat*2 ^ (8*(i%4))+number (s.take i) (4*(i/4)):=by
 obtain ⟨t,r,hr,rfl⟩:∃ t r,r<4∧i=4*t+r:=⟨i/4,i%4,by omega,by omega⟩
 rw[show (4*t+r)/4=t by omega,show (4*t+r)%4=r by omega]
 unfold number
 simp only[take_getD]
 have b0:=UInt8.toNat_lt (s.getD (4*t) 0)
 have b1:=UInt8.toNat_lt (s.getD (4*t+1) 0)
 have b2:=UInt8.toNat_lt (s.getD (4*t+2) 0)
 have z:(0:UInt8).toNat=0:=rfl
 rcases (show r=0∨r=1∨r=2∨r=3 by omega) with rfl | rfl | rfl | rfl
 ·rw[if_neg (by omega),if_neg (by omega),if_neg (by omega),if_neg (by omega),if_pos (by omega),if_neg (by omega),if_neg (by omega),if_neg (by omega),z]
  simp only[show 2 ^ (8*0)=1 from rfl,Nat.add_zero];omega
 ·rw[if_pos (by omega),if_neg (by omega),if_neg (by omega),if_neg (by omega),if_pos (by omega),if_pos (by omega),if_neg (by omega),if_neg (by omega),z]
  rw[show 2 ^ (8*1)=256 from rfl];omega
 ·rw[if_pos (by omega),if_pos (by omega),if_neg (by omega),if_neg (by omega),if_pos (by omega),if_pos (by omega),if_pos (by omega),if_neg (by omega),z]
  rw[show 2 ^ (8*2)=65536 from rfl];omega
 ·rw[if_pos (by omega),if_pos (by omega),if_pos (by omega),if_neg (by omega),if_pos (by omega),if_pos (by omega),if_pos (by omega),if_pos (by omega),z]
  rw[show 2 ^ (8*3)=16777216 from rfl];omega
theorem nums_take (s:List UInt8) (i:Nat) (h:i<64):
  (nums (s.take i) 16).set (i/4) (number (s.take i) (4*(i/4)) ||| (s.getD i 0).toNat*2 ^ (8*(i%4)))=nums (s.take (i+1)) 16:=by
 obtain ⟨h1,h2⟩:=number_low s i
 refine list_getD (by simp[nums]) fun j hj=>?_
 have hj16:j<16:=by simpa [nums] using hj
 rw[getD_set _ _ _ _ (by rw[nums_len];omega),nums_at _ _ _ hj16,nums_at _ _ _ hj16]
 by_cases he:j=i/4
 ·subst he
  rw[if_pos rfl,h2,Nat.or_comm,or_shift _ _ _ h1]
 ·rw[if_neg he,number_other s i j he]
theorem nums_add (s:List UInt8) (p q:Nat):nums s (p+q)=nums s p++(List.range q).map fun i=>number s (4*(p+i)):=by
 unfold nums
 rw[List.range_add,List.map_append,List.map_map]
 rfl
theorem state_eq (key nonce:List UInt8) (hk:key.length=32):nums (sigma++key++[0,0,0,0]++nonce) 16=state key nonce 0:=by
 have hs:sigma.length=16:=rfl
 have g1 (i:Nat) (h:i<48):(sigma++key++[0,0,0,0]++nonce).getD i 0=(sigma++key).getD i 0:=by
  rw[List.getD_eq_getElem?_getD,List.getD_eq_getElem?_getD,List.append_assoc,List.getElem?_append_left (by rw[List.length_append,hs,hk];exact h)]
 have g2 (i:Nat) (h:i<4):(sigma++key++[0,0,0,0]++nonce).getD (48+i) 0=0:=by
  rw[List.getD_eq_getElem?_getD,List.append_assoc,List.getElem?_append_right (by rw[List.length_append,hs,hk];omega),List.length_append,hs,hk,show 48+i-(16+32)=i by omega,List.getElem?_append_left (by simpa using h)]
  rcases (show i=0∨i=1∨i=2∨i=3 by omega) with rfl | rfl | rfl | rfl <;> rfl
 have g3 (i:Nat):(sigma++key++[0,0,0,0]++nonce).getD (52+i) 0=nonce.getD i 0:=by
  have hl:(sigma++key++[0,0,0,0]).length=52:=by simp[hs,hk]
  rw[List.getD_eq_getElem?_getD,List.getD_eq_getElem?_getD,List.getElem?_append_right (by omega),hl,show 52+i-52=i by omega]
 have e1:nums (sigma++key++[0,0,0,0]++nonce) 12=nums (sigma++key) 12:=by
  unfold nums
  refine List.map_congr_left fun i hi=>?_
  have:i<12:=List.mem_range.1 hi
  unfold number
  rw[g1 _ (by omega),g1 _ (by omega),g1 _ (by omega),g1 _ (by omega)]
 have e2:number (sigma++key++[0,0,0,0]++nonce) (48+0)=0:=by
  unfold number
  rw[g2 0 (by omega),show 48+0+1=48+1 by omega,g2 1 (by omega),show 48+0+2=48+2 by omega,g2 2 (by omega),show 48+0+3=48+3 by omega,g2 3 (by omega)]
  rfl
 have e3 (i:Nat):number (sigma++key++[0,0,0,0]++nonce) (4*(12+1+i))=number nonce (4*i):=by
  unfold number
  rw[show 4*(12+1+i)=52+4*i by omega,g3,show 52+4*i+1=52+(4*i+1) by omega,g3,show 52+4*i+2=52+(4*i+2) by omega,g3,show 52+4*i+3=52+(4*i+3) by omega,g3]
 generalize sigma++key++[0,0,0,0]++nonce=all at *
 have e4:nums all 16=nums all 12++(List.range 1).map (fun i=>number all (4*(12+i)))++(List.range 3).map (fun i=>number all (4*(12+1+i))):=by
  rw[←nums_add,←nums_add]
 have e5:(List.range 1).map (fun i=>number all (4*(12+i)))=[0]:=by
  show [number all (48+0)]=[0]
  rw[e2]
 have e6:(List.range 3).map (fun i=>number all (4*(12+1+i)))=nums nonce 3:=by
  unfold nums
  exact List.map_congr_left fun i _=>e3 i
 rw[e4,e1,e5,e6]
 rfl
theorem state_set (key nonce:List UInt8) (n:Nat):(state key nonce 0).set 12 n=state key nonce n:=by
 unfold state
 rw[List.append_assoc,List.set_append_right _ _ (by simp[nums]),List.append_assoc]
 simp[nums]
end Cha
def scells (key nonce:List UInt8) (p:Nat):List Value:=u32V (Cha.state key nonce 0)++[.int .u64 ((p:Nat):Int)]
def SRep (T:Tags) (w:World) (c:Nat × Nat) (b:Nat) (key nonce:List UInt8) (n used:Nat):Prop:=n*64+used≤274877906944∧At T w c b 161 (scells key nonce (n*64+used))
def tcells (R S D:List Nat) (m:Nat):List Value:=u32V R++u32V S++u32V D++[.int .i64 ((m:Nat):Int)]
def TRep (T:Tags) (w:World) (c:Nat × Nat) (b:Nat) (key l:List UInt8):Prop:=∃ D,Pol.Sum (Pol.rOf key) l D∧At T w c b 167 (tcells (Pol.clL (digitsOf (key.take 16)) 16++[0]) (digitsOf (key.drop 16)++[0]) D (l.length%16))
theorem SRep.stays {T T':Tags} {w w':World} {S:Nat × Nat→Prop} {c:Nat × Nat} {b:Nat} {key nonce:List UInt8} {n used:Nat} (h:SRep T w c b key nonce n used) (hs:Stays T T' w w' S) (hc:¬ S c):SRep T' w' c b key nonce n used:=
 ⟨h.1,h.2.stays hs hc⟩
theorem TRep.stays {T T':Tags} {w w':World} {S:Nat × Nat→Prop} {c:Nat × Nat} {b:Nat} {key l:List UInt8} (h:TRep T w c b key l) (hs:Stays T T' w w' S) (hc:¬ S c):TRep T' w' c b key l:=by
 obtain ⟨D,h1,h2⟩:=h
 exact ⟨D,h1,h2.stays hs hc⟩
theorem Row.strAny {w:World} {base:Nat} {l:List UInt8} {v:Value} {n:Nat} (h:Row w base 5 1 v n (u8L l)):∃ ao cap,v = .slice ao n cap∧n≤cap∧cap≤maxLen∧(convert 62 9 v).run Tryz.prog w = .ok (.string ⟨l.toArray⟩) w:=by
 have hl:l.length=n:=by have:=h.1;simpa [u8L] using this
 rcases Nat.eq_zero_or_pos n with h0 | h0
 ·subst h0
  obtain rfl:l=[]:=List.eq_nil_of_length_eq_zero hl
  rcases h.2 with ⟨rfl,_⟩ | ⟨g,cap,cur,rfl,_,_,_,hc,_⟩
  ·refine ⟨none,0,rfl,Nat.le_refl _,by decide,?_⟩
   rw[run_convert_bytes_string w 62 9 5 none 0 0 Tryz.underlying62 Tryz.underlying5 Tryz.underlying9]
   rfl
  ·exact ⟨_,cap,rfl,Nat.zero_le _,hc,run_convert_bytes_back (P:=Tryz.prog) w 62 9 5 ⟨g,0,none⟩ cap [] Tryz.underlying62 Tryz.underlying5 Tryz.underlying9 (fun j hj=>absurd hj (Nat.not_lt_zero _))⟩
 ·obtain ⟨g,cap,cur,rfl,_,hB,hc1,hc2,_,htk⟩:=h.open h0
  refine ⟨_,cap,rfl,hc1,hc2,?_⟩
  rw[←hl]
  refine run_convert_bytes_back w 62 9 5 ⟨g,0,none⟩ cap l Tryz.underlying62 Tryz.underlying5 Tryz.underlying9 (fun j hj=>?_)
  rw[Addr.add_mid,Nat.zero_add]
  exact hB.cell (take_at htk (by simp[u8L,hj]))
namespace Box
def gap (n:Nat):Nat:=(16-n%16)%16
def full (l:List UInt8):List UInt8:=l++List.replicate (gap l.length) 0
def laid (aad body:List UInt8):List UInt8:=full aad++full body++leB aad.length 8++leB body.length 8
def tag (key nonce aad body:List UInt8):List UInt8:=Pol.tag ((Cha.block key nonce 0).take 32) (laid aad body)
def sealed (key nonce aad text:List UInt8):List UInt8:=Cha.xorL key nonce 1 0 text text.length++tag key nonce aad (Cha.xorL key nonce 1 0 text text.length)
theorem gap_more (n j:Nat) (h:j<gap n):(n+j)%16≠0:=by unfold gap at h;omega
theorem gap_end (n:Nat):(n+gap n)%16=0:=by unfold gap;omega
theorem gap_lt (n:Nat):gap n<16:=by unfold gap;omega
end Box
set_option maxRecDepth 100000 in
set_option maxHeartbeats 800000 in
theorem boxFull_any (s:ByteArray) (w:World) (hs:s.size≤1099511627):
  Calls Tryz.prog 174 #[.string s] w fun e w'=>e = .returned (.string ⟨(Box.full s.data.toList).toArray⟩)∧Below w.heap.size w w':=by
 have hcv:=fun w:World=>run_bytes_of_string (P:=Tryz.prog) w 9 62 5 s Tryz.underlying9 Tryz.underlying62 Tryz.underlying5
 have hge:=grownCap_ge w s.size 0 5
 have hle:=grownCap_le_maxLen w s.size 0 5 (by unfold maxLen;omega)
 have HROW:=hide (row_bytes s w _ hge hle)
 have HF:=hide (show Box.full s.data.toList=s.data.toList++List.replicate (Box.gap s.size) 0 by rw[←text_len];rfl)
 clear hge hle
 go_enter Tryz.func174,Tryz.ntmps174
 go_wp2
 clear hcv
 go_loopw [3] (fun v wr=>∃ j:Nat,j≤Box.gap s.size∧Row wr w.heap.size 5 1 v (s.size+j) (u8L (s.data.toList++List.replicate j 0))∧Below w.heap.size w wr) (fun v _=>s.size+17-vlen v)
 case atStart=>exact ⟨0,Nat.zero_le _,by simp only[List.replicate_zero,List.append_nil,Nat.add_zero];exact HROW.out,((Below.refl w.heap.size w).drew.alloc (Nat.le_refl _) _)⟩
 case round=>
  clear HROW
  obtain ⟨j,hj,hr,hbe⟩:=hrel
  have hgl:=Box.gap_lt s.size
  have hsz:=hbe.size
  by_cases hlt:j<Box.gap s.size
  ·have hne:=Box.gap_more s.size j hlt
   obtain ⟨ao,cap,rfl,hc1,hc2,_⟩:=Row.strAny hr
   unfold maxLen at hc2
   have t1:((s.size+j:Nat):Int).tmod 16=(((s.size+j)%16:Nat):Int):=by rw[Int.tmod_eq_emod_of_nonneg (by omega)];omega
   have t2:((((s.size+j)%16:Nat):Int) != 0)=true:=by rw[bne_iff_ne];omega
   generalize hX:s.size+j=X at *
   generalize hY:X%16=Y at *
   have hXb:X≤1099511700:=by omega
   have HX:=hide hX
   have HR:=hide hr
   have HBE:=hide hbe
   clear hX hY hne hr hbe
   go_wp2_with (at_builtin;refine wpList_append_u8 rfl (.tmp 10) (.tmp 11) rfl w.heap.size _ X _ rfl (HR.out.alloc _) ⟨wr.heap.size,0,none⟩ 1 1 [0] rfl rfl ?_ ?_ ?_ ?_;exact one_news rfl (World.cell?_alloc_at _ _ _ _ rfl);omega;(simp;omega);intro v1 w1 hr1 hg1 hat1)
   go_roundw
   case rel=>
    refine ⟨j+1,by omega,?_,Below.grown (HBE.out.alloc hsz _) hg1 (by simp;omega) (fun k hk=>(HR.out.lt k hk).1)⟩
    rw[←HX.out,List.append_assoc,←List.replicate_succ'] at hr1
    exact hr1
   case measure=>rw[Row.vlen hr1];have:=HX.out;simp[vlen];omega
  ·have hjg:j=Box.gap s.size:=by omega
   have hne:=Box.gap_end s.size
   rw[←hjg] at hne
   obtain ⟨ao,cap,rfl,hc1,hc2,hcv⟩:=Row.strAny hr
   unfold maxLen at hc2
   have t1:((s.size+j:Nat):Int).tmod 16=(((s.size+j)%16:Nat):Int):=by rw[Int.tmod_eq_emod_of_nonneg (by omega)];omega
   rw[hne] at t1
   rw[←hjg] at HF
   generalize s.size+j=X at *
   have HBE:=hide hbe
   clear hne hr hbe hjg hlt hj
   go_wp2
   go_ret
   rw[HF.out]
   exact ⟨rfl,HBE.out⟩
theorem leB_shift (n i:Nat):n/256 ^ i/256=n/256 ^ (i+1):=by rw[Nat.div_div_eq_div_mul,Nat.pow_succ]
set_option maxRecDepth 100000 in
set_option maxHeartbeats 800000 in
theorem boxLength_any (n:Nat) (w:World) (hn:n≤1099511627776):
  Calls Tryz.prog 175 #[.int .i64 (n:Nat)] w fun e w'=>e = .returned (.string ⟨(leB n 8).toArray⟩)∧Below w.heap.size w w':=by
 have XS:=hide (leB_succ n)
 have X0:=hide (show leB n 0=[] from rfl)
 have SH:=hide (leB_shift n)
 have D0:=hide (show n/256 ^ 0=n by simp)
 generalize leB n=xl at *
 go_enter Tryz.func175,Tryz.ntmps175
 go_wp2
 go_loopw [0,3,4] (fun vn vo vi wr=>∃ i q:Nat,i≤8∧vi = .int .i64 (i:Nat)∧vn = .int .i64 (q:Nat)∧q=n/256 ^ i∧q≤n∧Row wr w.heap.size 5 1 vo i (u8L (xl i))∧Below w.heap.size w wr) (fun _ _ i _=>8-(intOf i).toNat)
 case atStart=>exact ⟨0,n,by omega,rfl,rfl,D0.out.symm,Nat.le_refl _,by rw[X0.out];exact Row.nil _ _ _ _,Below.refl _ _⟩
 case round=>
  obtain ⟨i,q,hi,rfl,rfl,hq,hqn,hrow,hbe⟩:=hrel
  by_cases hlt:i<8
  ·have jk:(i:Int)<8:=by omega
   have HROW:=hide hrow
   have HBE:=hide hbe
   have hsz:=hbe.size
   have HX:=hide (XS.out i)
   rw[←hq] at HX
   have HQ:=hide (show q/256=n/256 ^ (i+1) by rw[hq,SH.out])
   have t1:(q:Int).tmod 256=((q%256:Nat):Int):=by rw[Int.tmod_eq_emod_of_nonneg (by omega)];omega
   have t2:(q:Int).tdiv 256=((q/256:Nat):Int):=by rw[Int.tdiv_eq_ediv_of_nonneg (by omega)];omega
   have hd:q%256<256:=Nat.mod_lt _ (by decide)
   have hq3:q/256≤n:=by omega
   have E8:=hide (show (((q%256:Nat):Int))=((UInt8.ofNat (q%256)).toNat:Nat) by rw[ofNat_mod,Nat.mod_eq_of_lt hd])
   clear hrow hbe hq
   generalize q%256=d at *
   generalize q/256=q2 at *
   go_wp2_with (at_builtin;refine wpList_append_u8 rfl (.tmp 9) (.tmp 13) rfl w.heap.size _ i _ rfl (HROW.out.alloc _) _ 1 1 [UInt8.ofNat d] rfl rfl (one_news E8.out (World.cell?_alloc_at _ _ _ _ rfl)) ?_ ?_ ?_;omega;(simp;omega);intro v1 w5 hr1 hg1 hat1)
   go_roundw
   case rel=>exact ⟨i+1,q2,by omega,by first | rfl | go_num,by first | rfl | go_num,HQ.out,hq3,by rw[HX.out];exact hr1,Below.grown (HBE.out.alloc hsz _) hg1 (by simp;omega) (fun k hk=>(HROW.out.lt k hk).1)⟩
   case measure=>simp[intOf];omega
  ·obtain rfl:i=8:=by omega
   obtain ⟨g4,cap4,rfl,hcv⟩:=Row.str hrow (by omega)
   have HBE:=hide hbe
   clear hrow hbe hq
   go_wp2
   go_ret
   exact ⟨rfl,HBE.out⟩
theorem two_toList (l:List UInt8):(⟨l.toArray⟩:ByteArray).data.toList=l:=by simp
theorem two_size (l:List UInt8):(⟨l.toArray⟩:ByteArray).size=l.length:=by rw[←text_len]
theorem text_ext {a b:ByteArray} (h:a.data.toList=b.data.toList):a=b:=ByteArray.ext (Array.toList_inj.1 h)
namespace Box
theorem full_len (l:List UInt8):(full l).length≤l.length+16:=by have:=gap_lt l.length;simp[full];omega
theorem tag_len (key nonce aad body:List UInt8):(tag key nonce aad body).length=16:=by unfold tag Pol.tag;rw[leB_len]
theorem xor_len (key nonce:List UInt8) (n f:Nat) (text:List UInt8) (k:Nat):(Cha.xorL key nonce n f text k).length=k:=by simp[Cha.xorL]
end Box
set_option maxRecDepth 100000 in
set_option maxHeartbeats 800000 in
theorem boxTag_any (key nonce aad body:ByteArray) (w:World) (hk:key.size=32) (hn:nonce.size=12) (ha:aad.size≤1099511627) (hb:body.size≤1099511627):
  Calls Tryz.prog 118 #[.string key,.string nonce,.string aad,.string body] w fun e w'=>e = .returned (.string ⟨(Box.tag key.data.toList nonce.data.toList aad.data.toList body.data.toList).toArray⟩)∧Below w.heap.size w w':=by
 have HBL:=hide (fun w=>(show Calls Tryz.prog 50 #[.string key,.string nonce,.int .i64 0] w fun e w'=>e = .returned (.tuple #[.string ⟨(Cha.block key.data.toList nonce.data.toList 0).toArray⟩,.int .i64 0])∧Below w.heap.size w w' from chaBlock_any key nonce 0 w hk hn (by decide)))
 have HFA:=hide (fun w=>boxFull_any aad w ha)
 have HFB:=hide (fun w=>boxFull_any body w hb)
 have HLA:=hide (fun w=>boxLength_any aad.size w (by omega))
 have HLB:=hide (fun w=>boxLength_any body.size w (by omega))
 have hbl:(⟨(Cha.block key.data.toList nonce.data.toList 0).toArray⟩:ByteArray).size=64:=by rw[two_size,Cha.block_len]
 have hfa:(⟨(Box.full aad.data.toList).toArray⟩:ByteArray).size≤aad.size+16:=by rw[two_size,←text_len aad];exact Box.full_len _
 have hfb:(⟨(Box.full body.data.toList).toArray⟩:ByteArray).size≤body.size+16:=by rw[two_size,←text_len body];exact Box.full_len _
 have hla:(⟨(leB aad.size 8).toArray⟩:ByteArray).size=8:=by rw[two_size,leB_len]
 have hlb:(⟨(leB body.size 8).toArray⟩:ByteArray).size=8:=by rw[two_size,leB_len]
 have HV:=hide (show Box.tag key.data.toList nonce.data.toList aad.data.toList body.data.toList=Pol.tag ((⟨(Cha.block key.data.toList nonce.data.toList 0).toArray⟩:ByteArray).extract 0 32).data.toList ((⟨(Box.full aad.data.toList).toArray⟩:ByteArray)++⟨(Box.full body.data.toList).toArray⟩++⟨(leB aad.size 8).toArray⟩++⟨(leB body.size 8).toArray⟩).data.toList by
  rw[cat_list,cat_list,cat_list,sub_list,←text_len aad,←text_len body]
  rfl)
 generalize (⟨(Cha.block key.data.toList nonce.data.toList 0).toArray⟩:ByteArray)=bl at *
 generalize (⟨(Box.full aad.data.toList).toArray⟩:ByteArray)=fa at *
 generalize (⟨(Box.full body.data.toList).toArray⟩:ByteArray)=fb at *
 generalize (⟨(leB aad.size 8).toArray⟩:ByteArray)=la at *
 generalize (⟨(leB body.size 8).toArray⟩:ByteArray)=lb at *
 generalize Box.tag key.data.toList nonce.data.toList aad.data.toList body.data.toList=TG at *
 have HT:=hide (fun w=>polTag_any (bl.extract 0 32) (fa++fb++la++lb) w (by rw[ByteArray.size_extract];omega) (by rw[cat_size,cat_size,cat_size];omega))
 rw[←HV.out] at HT
 have j0:(32:Int)≤(bl.size:Int):=by omega
 have j1:¬ 9223372036854775807<fa.size+fb.size:=by omega
 have j2:¬ 9223372036854775807<(fa++fb).size+la.size:=by rw[cat_size];omega
 have j3:¬ 9223372036854775807<(fa++fb++la).size+lb.size:=by rw[cat_size,cat_size];omega
 clear hk hn HV hbl hfa hfb hla hlb
 go_enter Tryz.func118,Tryz.ntmps118
 go_wp2_with fail
 refine (HBL.out _).mono ?_
 rintro e w1 ⟨rfl,be1⟩
 have BE1:=hide be1
 clear be1 HBL
 go_wp2_with fail
 refine (HFA.out _).mono ?_
 rintro e w2 ⟨rfl,be2⟩
 have BE2:=hide (BE1.out.trans (be2.mono BE1.out.size))
 clear be2 HFA BE1
 go_wp2_with fail
 refine (HFB.out _).mono ?_
 rintro e w3 ⟨rfl,be3⟩
 have BE3:=hide (BE2.out.trans (be3.mono BE2.out.size))
 clear be3 HFB BE2
 go_wp2_with fail
 refine (HLA.out _).mono ?_
 rintro e w4 ⟨rfl,be4⟩
 have BE4:=hide (BE3.out.trans (be4.mono BE3.out.size))
 clear be4 HLA BE3
 go_wp2_with fail
 refine (HLB.out _).mono ?_
 rintro e w5 ⟨rfl,be5⟩
 have BE5:=hide (BE4.out.trans (be5.mono BE4.out.size))
 clear be5 HLB BE4
 go_wp2_with fail
 refine (HT.out _).mono ?_
 rintro e w6 ⟨rfl,be6⟩
 have BE6:=hide (BE5.out.trans (be6.mono BE5.out.size))
 clear be6 HT BE5
 go_wp2
 go_ret
 exact ⟨rfl,BE6.out⟩
set_option maxRecDepth 100000 in
set_option maxHeartbeats 800000 in
theorem boxSeal_any (key nonce aad text:ByteArray) (w:World) (hk:key.size=32) (hn:nonce.size=12) (ha:aad.size≤1099511627) (ht:text.size≤1099511627):
  Calls Tryz.prog 54 #[.string key,.string nonce,.string aad,.string text] w fun e w'=>e = .returned (.tuple #[.string ⟨(Box.sealed key.data.toList nonce.data.toList aad.data.toList text.data.toList).toArray⟩,.int .i64 0])∧Below w.heap.size w w':=by
 have z1:((key.size:Int) != 32)=false:=by rw[hk];rfl
 have z2:((nonce.size:Int) != 12)=false:=by rw[hn];rfl
 have HX:=hide (fun w=>(show Calls Tryz.prog 62 #[.string key,.string nonce,.int .i64 1,.int .i64 0,.string text] w fun e w'=>e = .returned (.tuple #[.string ⟨(Cha.xorL key.data.toList nonce.data.toList 1 0 text.data.toList text.size).toArray⟩,.int .i64 0])∧Below w.heap.size w w' from chaXor_any key nonce 1 0 text w hk hn (by decide) ht (by omega)))
 have hbs:(⟨(Cha.xorL key.data.toList nonce.data.toList 1 0 text.data.toList text.size).toArray⟩:ByteArray).size=text.size:=by rw[two_size,Box.xor_len]
 have HT:=hide (fun w=>boxTag_any key nonce aad ⟨(Cha.xorL key.data.toList nonce.data.toList 1 0 text.data.toList text.size).toArray⟩ w hk hn ha (by rw[hbs];exact ht))
 have hts:(⟨(Box.tag key.data.toList nonce.data.toList aad.data.toList (⟨(Cha.xorL key.data.toList nonce.data.toList 1 0 text.data.toList text.size).toArray⟩:ByteArray).data.toList).toArray⟩:ByteArray).size=16:=by rw[two_size,Box.tag_len]
 have HV:=hide (show (⟨(Box.sealed key.data.toList nonce.data.toList aad.data.toList text.data.toList).toArray⟩:ByteArray)=⟨(Cha.xorL key.data.toList nonce.data.toList 1 0 text.data.toList text.size).toArray⟩++⟨(Box.tag key.data.toList nonce.data.toList aad.data.toList (⟨(Cha.xorL key.data.toList nonce.data.toList 1 0 text.data.toList text.size).toArray⟩:ByteArray).data.toList).toArray⟩ by
  apply text_ext
  rw[cat_list,two_toList,two_toList,two_toList,←text_len text]
  rfl)
 rw[HV.out]
 clear HV
 generalize Box.tag key.data.toList nonce.data.toList aad.data.toList (⟨(Cha.xorL key.data.toList nonce.data.toList 1 0 text.data.toList text.size).toArray⟩:ByteArray).data.toList=TG at *
 generalize (⟨(Cha.xorL key.data.toList nonce.data.toList 1 0 text.data.toList text.size).toArray⟩:ByteArray)=bo at *
 generalize (⟨TG.toArray⟩:ByteArray)=tg at *
 have j1:¬ 9223372036854775807<bo.size+tg.size:=by omega
 clear hk hn hbs hts ha ht
 go_enter Tryz.func54,Tryz.ntmps54
 go_wp2_with fail
 refine (HX.out _).mono ?_
 rintro e w1 ⟨rfl,be1⟩
 have BE1:=hide be1
 clear be1 HX
 go_wp2_with fail
 refine (HT.out _).mono ?_
 rintro e w2 ⟨rfl,be2⟩
 have BE2:=hide (BE1.out.trans (be2.mono BE1.out.size))
 clear be2 HT BE1
 go_wp2
 refine bodyPost_ret (results_tmp2 rfl _ _ _) rfl ?_
 exact ⟨rfl,BE2.out⟩
namespace Box
def bare (key nonce box:List UInt8):List UInt8:=Cha.xorL key nonce 1 0 (box.take (box.length-16)) (box.length-16)
def opened (key nonce aad box:List UInt8):List UInt8 × Int:=
 if box.length<16 then ([],4) else if sealed key nonce aad (bare key nonce box)=box then (bare key nonce box,0) else ([],4)
end Box
namespace Ref
def nb (n:Nat):Nat→List UInt8
 | 0=>[]
 | k+1=>UInt8.ofNat (n/256 ^ k%256)::nb n k
def nonce (n:Nat) (last:Bool):List UInt8:=nb n 11++[if last then 1 else 0]
def boxI (body:List UInt8) (i:Nat):List UInt8:=(body.drop (32*i)).take 32
def opnC (key:List UInt8) (n:Nat) (last:Bool) (bx:List UInt8):List UInt8 × Int:=
 if (Box.opened key (nonce n last) [] bx).2=0 then
  (if last=true∧0<n∧(Box.opened key (nonce n last) [] bx).1=[] then ([],12) else ((Box.opened key (nonce n last) [] bx).1,0))
 else if (Box.opened key (nonce n (!last)) [] bx).2≠0 then ([],9) else if last=true then ([],10) else ([],11)
end Ref
def Ref.opnI (key body:List UInt8) (i:Nat):List UInt8 × Int:=opnC key i (decide (body.length≤32*i+32)) (boxI body i)
structure SpringR where
 bx:Nat
 bm:Nat
 text:ByteArray
 pos:Int
def SpringR.cells (p:SpringR):List Value:=[.string p.text,.int .i64 p.pos]
structure SinkR where
 bx:Nat
 gx:Nat
 bm:Nat
 gm:Nat
 got:ByteArray
 plan:List Int
 pos:Int
def SinkR.cells (p:SinkR) (g:Nat):List Value:=[.string p.got,.slice (some ⟨g,0,none⟩) p.plan.length p.plan.length,.int .i64 p.pos]
structure SourceR where
 bx:Nat
 gx:Nat
 bm:Nat
 gm:Nat
 text:ByteArray
 pos:Int
 plan:List Int
 step:Int
def SourceR.cells (p:SourceR) (g:Nat):List Value:=[.string p.text,.int .i64 p.pos,.slice (some ⟨g,0,none⟩) p.plan.length p.plan.length,.int .i64 p.step]
structure HashR where
 b:Nat
 l:List UInt8
structure MacR where
 b:Nat
 key:ByteArray
 l:List UInt8
def padL (key:List UInt8) (c:UInt8):List UInt8:=((if 64<key.length then Sha.sum key else key)++List.replicate (64-(if 64<key.length then Sha.sum key else key).length) 0).map (· ^^^ c)
def MRep (w:World) (b:Nat) (t:TypeId) (key l:List UInt8):Prop:=
 ∃ ci co:List Value,ci.length=73∧co.length=73∧HRep w b t [] co (padL key 0x36++l)∧HRep w b t ci [] (padL key 0x5c)
def maV (p:MacR):List Value:=[.pointer (some ⟨p.b,0,none⟩),.string p.key,.string ⟨p.l.toArray⟩]
structure StrR where
 b:Nat
 key:ByteArray
 nonce:ByteArray
 n:Nat
 used:Nat
def stV (p:StrR):List Value:=[.pointer (some ⟨p.b,0,none⟩),.string p.key,.string p.nonce,.int .i64 (p.n:Nat),.int .i64 (p.used:Nat)]
structure TagR where
 b:Nat
 key:ByteArray
 l:List UInt8
def taV (p:TagR):List Value:=[.pointer (some ⟨p.b,0,none⟩),.string p.key,.string ⟨p.l.toArray⟩]
structure ListR where
 v:Value
 v2:Value
 l:List ByteArray
structure PlR where
 bx:Nat
 bm:Nat
 key:ByteArray
 body:ByteArray
 n:Nat
 size:Nat
def PlR.xV (p:PlR):List Value:=[.string p.key,.string p.body,.int .i64 (p.size:Nat)]
def PlR.mV (p:PlR):List Value:=[.string p.key,.string p.body,.int .i64 (p.n:Nat),.int .i64 (p.size:Nat)]
structure PlC (key C:List UInt8) (n size:Nat):Prop where
 pos:0<C.length
 cn:n=(C.length-1)/32
 ok:(Ref.opnI key C n).2=0
 sz:size=16*n+(Ref.opnI key C n).1.length
structure RdR where
 bx:Nat
 bm:Nat
 k:Nat
 sx:Nat
 sm:Nat
 key:List UInt8
 n:Nat
 ahead:List UInt8
 text:List UInt8
 e:Int
 come:ByteArray
 fin:Bool
 mkey:ByteArray
 mn:Nat
def RdR.xV (p:RdR):List Value:=[if p.e=0 then .pointer (some ⟨p.sx,0,none⟩) else .pointer none,.string ⟨p.key.toArray⟩,.int .u64 (p.n:Nat),.string ⟨p.ahead.toArray⟩,.string ⟨p.text.toArray⟩,.int .i64 p.e]
def RdR.mV (p:RdR):List Value:=[.pointer (some ⟨p.sm,0,none⟩),.string p.come,.bool p.fin,.string p.mkey,.int .i64 (p.mn:Nat),.string ⟨p.text.toArray⟩,.int .i64 p.e]
structure RdK (M:Nat) (p:RdR):Prop where
 ok:p.e=0→p.key.length=32∧p.ahead.length≤1∧p.come=⟨p.ahead.toArray⟩∧p.fin=false∧p.mkey=⟨p.key.toArray⟩∧p.mn=p.n
 tx:p.text.length≤1000
 n:p.n≤M
theorem RdK.more {M M':Nat} {p:RdR} (h:RdK M p) (hM:M≤M'):RdK M' p:=⟨h.ok,h.tx,Nat.le_trans h.n hM⟩
structure WrR where
 bx:Nat
 bm:Nat
 k:Nat
 sx:Nat
 sm:Nat
 key:ByteArray
 n:Nat
 chunk:List UInt8
 t:List UInt8
 e:Int
 mkey:ByteArray
 text:ByteArray
 out:Nat
def WrR.xV (p:WrR):List Value:=[if p.e=0 then .pointer (some ⟨p.sx,0,none⟩) else .pointer none,.string p.key,.int .u64 (p.n:Nat)]++u8L p.chunk++[.int .i64 (p.t.length:Nat),.int .i64 p.e]
def WrR.mV (p:WrR):List Value:=[.pointer (some ⟨p.sm,0,none⟩),.string p.mkey,.string p.text,.int .i64 (p.out:Nat),.int .i64 p.e]
structure WrK (M:Nat) (p:WrR):Prop where
 c16:p.chunk.length=16
 ok:p.e=0→p.key.size=32∧p.chunk.take p.t.length=p.t∧p.t.length≤16∧p.mkey=p.key∧p.out=p.n∧p.text.data.toList.drop (16*p.n)=p.t∧16*p.n+p.t.length=p.text.size∧p.text.size≤M
theorem WrK.more {M M':Nat} {p:WrR} (h:WrK M p) (hM:M≤M'):WrK M' p:=⟨h.c16,fun he=>by
 obtain ⟨a,b,c,d,e,f,g,i⟩:=h.ok he
 exact ⟨a,b,c,d,e,f,g,Nat.le_trans i hM⟩⟩
structure SpK (M:Nat) (p:SpringR):Prop where
 lo:0≤p.pos
 hi:p.pos≤(p.text.size:Int)
 sz:p.text.size≤M
theorem SpK.more {M M':Nat} {p:SpringR} (h:SpK M p) (hM:M≤M'):SpK M' p:=⟨h.lo,h.hi,Nat.le_trans h.sz hM⟩
structure SiK (M:Nat) (p:SinkR):Prop where
 got:p.got.size≤512*M
 lo:0≤p.pos
 hi:p.pos≤(p.plan.length:Int)
 pl:p.plan.length≤M
theorem SiK.more {M M':Nat} {p:SinkR} (h:SiK M p) (hM:M≤M'):SiK M' p:=⟨Nat.le_trans h.got (Nat.mul_le_mul_left _ hM),h.lo,h.hi,Nat.le_trans h.pl hM⟩
structure SoK (M:Nat) (p:SourceR):Prop where
 sz:p.text.size≤512*M+65536
 lo:0≤p.pos
 hi:p.pos≤(p.text.size:Int)
 slo:0≤p.step
 shi:p.step≤(p.plan.length:Int)
 pl:p.plan.length≤M
theorem SoK.more {M M':Nat} {p:SourceR} (h:SoK M p) (hM:M≤M'):SoK M' p:=⟨by have:=h.sz;omega,h.lo,h.hi,h.slo,h.shi,Nat.le_trans h.pl hM⟩
def ptrs (a b:Nat):List Value:=[.pointer (some ⟨a,0,none⟩),.pointer (some ⟨b,0,none⟩)]
structure I64 where
 v:Int
 lo : -9223372036854775808≤v
 hi:v≤9223372036854775807
structure Sig where
 vsp:Value
 vsi:Value
 vso:Value
 vha:Value
 vma:Value
 vst:Value
 vta:Value
 vwo:Value
 vre:Value
 vls:Value
 vlw:Value
 sp:List SpringR
 si:List SinkR
 so:List SourceR
 ha:List HashR
 ma:List MacR
 st:List StrR
 ta:List TagR
 wo:List ByteArray
 re:List ByteArray
 ls:List ListR
 file:ByteArray
 key:ByteArray
 nonce:ByteArray
 fr:I64
 n:I64
 ex:I64
 vpl:Value
 pl:List PlR
 vwr:Value
 wr:List WrR
 vrd:Value
 rd:List RdR
def nilV:Value:=.slice none 0 0
def Sig.cells (σ:Sig):List Value:=[σ.vsp,σ.vsi,σ.vso,σ.vwr,σ.vrd,σ.vpl,σ.vha,σ.vma,σ.vst,σ.vta,σ.vwo,.string σ.file,.string σ.key,.string σ.nonce,σ.vre,σ.vls,σ.vlw,.int .i64 σ.fr.v,.int .i64 σ.n.v,.int .i64 σ.ex.v]
structure Inv (T:Tags) (base B M:Nat) (σ:Sig) (w:World):Prop where
 hw:At T w (1,0) B 44 σ.cells
 rsp:RowT T w (2,0) 91 2 σ.vsp σ.sp.length (σ.sp.flatMap fun p=>ptrs p.bx p.bm)
 rsi:RowT T w (2,1) 96 2 σ.vsi σ.si.length (σ.si.flatMap fun p=>ptrs p.bx p.bm)
 rso:RowT T w (2,2) 100 2 σ.vso σ.so.length (σ.so.flatMap fun p=>ptrs p.bx p.bm)
 rwr:RowT T w (2,3) 121 2 σ.vwr σ.wr.length (σ.wr.flatMap fun p=>ptrs p.bx p.bm)
 rrd:RowT T w (2,4) 109 2 σ.vrd σ.rd.length (σ.rd.flatMap fun p=>ptrs p.bx p.bm)
 rpl:RowT T w (2,5) 117 2 σ.vpl σ.pl.length (σ.pl.flatMap fun p=>ptrs p.bx p.bm)
 rha:RowT T w (2,6) 71 2 σ.vha σ.ha.length (σ.ha.flatMap fun p=>[.pointer (some ⟨p.b,0,none⟩),.string ⟨p.l.toArray⟩])
 rma:RowT T w (2,7) 73 3 σ.vma σ.ma.length (σ.ma.flatMap maV)
 rst:RowT T w (2,8) 78 5 σ.vst σ.st.length (σ.st.flatMap stV)
 rta:RowT T w (2,9) 85 3 σ.vta σ.ta.length (σ.ta.flatMap taV)
 rwo:RowT T w (2,10) 9 1 σ.vwo σ.wo.length (strV σ.wo)
 rre:RowT T w (2,14) 9 1 σ.vre σ.re.length (strV σ.re)
 rls:RowT T w (2,15) 41 1 σ.vls σ.ls.length (σ.ls.map (·.v))
 rlw:RowT T w (2,16) 41 1 σ.vlw σ.ls.length (σ.ls.map (·.v2))
 sp:∀ i p,σ.sp[i]? = some p→At T w (20,i) p.bx 171 p.cells∧At T w (21,i) p.bm 171 p.cells
 si:∀ i p,σ.si[i]? = some p→(At T w (22,i) p.bx 173 (p.cells p.gx)∧At T w (23,i) p.gx 3 (intV p.plan))∧At T w (24,i) p.bm 173 (p.cells p.gm)∧At T w (25,i) p.gm 3 (intV p.plan)
 so:∀ i p,σ.so[i]? = some p→(At T w (26,i) p.bx 175 (p.cells p.gx)∧At T w (27,i) p.gx 3 (intV p.plan))∧At T w (28,i) p.bm 175 (p.cells p.gm)∧At T w (29,i) p.gm 3 (intV p.plan)
 pl:∀ i p,σ.pl[i]? = some p→At T w (36,i) p.bx 191 p.xV∧At T w (37,i) p.bm 198 p.mV∧p.key.size=32∧PlC p.key.data.toList p.body.data.toList p.n p.size∧p.body.size≤512*M+65536
 wr:∀ i p,σ.wr[i]? = some p→At T w (40,i) p.bx 201 p.xV∧At T w (41,i) p.bm 204 p.mV∧WrK M p∧∃ s,σ.si[p.k]? = some s∧s.bx=p.sx∧s.bm=p.sm
 rd:∀ i p,σ.rd[i]? = some p→At T w (38,i) p.bx 183 p.xV∧At T w (39,i) p.bm 185 p.mV∧RdK M p∧∃ s,σ.so[p.k]? = some s∧s.bx=p.sx∧s.bm=p.sm
 spK:∀ (i:Nat) (p:SpringR),σ.sp[i]? = some p→SpK M p
 siK:∀ (i:Nat) (p:SinkR),σ.si[i]? = some p→SiK M p
 soK:∀ (i:Nat) (p:SourceR),σ.so[i]? = some p→SoK M p
 nwr:σ.wr.length≤M
 nrd:σ.rd.length≤M
 ha:∀ i p,σ.ha[i]? = some p→HRep w p.b 135 [] [] p.l∧T p.b=(30,i)∧p.l.length≤M
 ma:∀ i p,σ.ma[i]? = some p→MRep w p.b 142 p.key.data.toList p.l∧T p.b=(33,i)∧p.l.length≤M∧p.key.size≤512*M+65536
 st:∀ i p,σ.st[i]? = some p→SRep T w (34,i) p.b p.key.data.toList p.nonce.data.toList p.n p.used∧p.key.size=32∧p.nonce.size=12∧p.n≤4294967295∧p.used≤M
 ta:∀ i p,σ.ta[i]? = some p→TRep T w (35,i) p.b p.key.data.toList p.l∧p.key.size=32∧p.l.length≤M
 ls:∀ i p,σ.ls[i]? = some p→Lst T w (31,i) p.v p.l∧Lst T w (32,i) p.v2 p.l
 old:∀ g,g<base→T g=(0,0)
 two:2≤base
 bsz:base≤w.heap.size
 kt:KTab w
 ht:HTab w
 npl:σ.pl.length≤M
 bound:M≤1073741824∧σ.sp.length≤M∧σ.si.length≤M∧σ.so.length≤M∧σ.ha.length≤M∧σ.wo.length≤M∧σ.re.length≤M∧σ.ls.length≤M∧σ.ma.length≤M∧σ.st.length≤M∧σ.ta.length≤M
 sizes:(∀ x ∈ σ.wo,x.size≤512*M+65536)∧(∀ x ∈ σ.re,x.size≤512*M+65536)∧(∀ p ∈ σ.ls,p.l.length≤M∧∀ x ∈ p.l,x.size≤512*M+65536)∧σ.file.size≤512*M+65536∧σ.key.size≤512*M+65536∧σ.nonce.size≤512*M+65536
theorem HRep.stays {T T':Tags} {w w':World} {S:Nat × Nat→Prop} {c:Nat × Nat} {b:Nat} {t:TypeId} {pre post:List Value} {l:List UInt8} (h:HRep w b t pre post l) (hs:Stays T T' w w' S) (ht:T b=c) (hc:¬ S c):HRep w' b t pre post l:=by
 obtain ⟨k,h1,h2,h3⟩:=h
 refine ⟨k,h1,h2,?_⟩
 unfold Blk
 rw[hs.block b h3.lt (by rw[ht];exact hc)]
 exact h3
theorem MRep.lt {w:World} {b:Nat} {t:TypeId} {key l:List UInt8} (h:MRep w b t key l):b<w.heap.size:=by
 obtain ⟨ci,co,_,_,h,_⟩:=h
 exact h.lt
theorem MRep.stays {T T':Tags} {w w':World} {S:Nat × Nat→Prop} {c:Nat × Nat} {b:Nat} {t:TypeId} {key l:List UInt8} (h:MRep w b t key l) (hs:Stays T T' w w' S) (ht:T b=c) (hc:¬ S c):MRep w' b t key l:=by
 obtain ⟨ci,co,h1,h2,h3,h4⟩:=h
 exact ⟨ci,co,h1,h2,h3.stays hs ht hc,h4.stays hs ht hc⟩
theorem Inv.uwo {T T':Tags} {base B M M':Nat} {σ:Sig} {w w':World} (h:Inv T base B M σ w) (hM:M≤M') (v':Value) (wo':List ByteArray)
  (hs:Stays T T' w w' (fun c=>c=(1,0)∨c=(2,10)))
  (hw:At T' w' (1,0) B 44 ({ σ with vwo:=v',wo:=wo' }:Sig).cells)
  (nrwo:RowT T' w' (2,10) 9 1 v' wo'.length (strV wo'))
  (hbd:M'≤1073741824∧({ σ with vwo:=v',wo:=wo' }:Sig).sp.length≤M'∧({ σ with vwo:=v',wo:=wo' }:Sig).si.length≤M'∧({ σ with vwo:=v',wo:=wo' }:Sig).so.length≤M'∧({ σ with vwo:=v',wo:=wo' }:Sig).ha.length≤M'∧({ σ with vwo:=v',wo:=wo' }:Sig).wo.length≤M'∧({ σ with vwo:=v',wo:=wo' }:Sig).re.length≤M'∧({ σ with vwo:=v',wo:=wo' }:Sig).ls.length≤M'∧({ σ with vwo:=v',wo:=wo' }:Sig).ma.length≤M'∧({ σ with vwo:=v',wo:=wo' }:Sig).st.length≤M'∧({ σ with vwo:=v',wo:=wo' }:Sig).ta.length≤M')
  (hsz:(∀ x ∈ ({ σ with vwo:=v',wo:=wo' }:Sig).wo,x.size≤512*M'+65536)∧(∀ x ∈ ({ σ with vwo:=v',wo:=wo' }:Sig).re,x.size≤512*M'+65536)∧(∀ p ∈ ({ σ with vwo:=v',wo:=wo' }:Sig).ls,p.l.length≤M'∧∀ x ∈ p.l,x.size≤512*M'+65536)∧({ σ with vwo:=v',wo:=wo' }:Sig).file.size≤512*M'+65536∧({ σ with vwo:=v',wo:=wo' }:Sig).key.size≤512*M'+65536∧({ σ with vwo:=v',wo:=wo' }:Sig).nonce.size≤512*M'+65536):
  Inv T' base B M' { σ with vwo:=v',wo:=wo' } w' where
 hw:=hw
 rsp:=h.rsp.stays hs (by simp)
 rsi:=h.rsi.stays hs (by simp)
 rso:=h.rso.stays hs (by simp)
 rwr:=h.rwr.stays hs (by simp)
 rrd:=h.rrd.stays hs (by simp)
 rpl:=h.rpl.stays hs (by simp)
 rha:=h.rha.stays hs (by simp)
 rma:=h.rma.stays hs (by simp)
 rst:=h.rst.stays hs (by simp)
 rta:=h.rta.stays hs (by simp)
 rwo:=nrwo
 rre:=h.rre.stays hs (by simp)
 rls:=h.rls.stays hs (by simp)
 rlw:=h.rlw.stays hs (by simp)
 sp:=fun i p hp=>⟨(h.sp i p hp).1.stays hs (by simp),(h.sp i p hp).2.stays hs (by simp)⟩
 si:=fun i p hp=>⟨⟨(h.si i p hp).1.1.stays hs (by simp),(h.si i p hp).1.2.stays hs (by simp)⟩,(h.si i p hp).2.1.stays hs (by simp),(h.si i p hp).2.2.stays hs (by simp)⟩
 so:=fun i p hp=>⟨⟨(h.so i p hp).1.1.stays hs (by simp),(h.so i p hp).1.2.stays hs (by simp)⟩,(h.so i p hp).2.1.stays hs (by simp),(h.so i p hp).2.2.stays hs (by simp)⟩
 pl:=fun i p hp=>⟨(h.pl i p hp).1.stays hs (by simp),(h.pl i p hp).2.1.stays hs (by simp),(h.pl i p hp).2.2.1,(h.pl i p hp).2.2.2.1,Nat.le_trans (h.pl i p hp).2.2.2.2 (by omega)⟩
 wr:=fun i p hp=>⟨(h.wr i p hp).1.stays hs (by simp),(h.wr i p hp).2.1.stays hs (by simp),(h.wr i p hp).2.2.1.more hM,(h.wr i p hp).2.2.2⟩
 rd:=fun i p hp=>⟨(h.rd i p hp).1.stays hs (by simp),(h.rd i p hp).2.1.stays hs (by simp),(h.rd i p hp).2.2.1.more hM,(h.rd i p hp).2.2.2⟩
 spK:=fun i p hp=>(h.spK i p hp).more hM
 siK:=fun i p hp=>(h.siK i p hp).more hM
 soK:=fun i p hp=>(h.soK i p hp).more hM
 nwr:=Nat.le_trans h.nwr hM
 nrd:=Nat.le_trans h.nrd hM
 ha:=fun i p hp=>⟨(h.ha i p hp).1.stays hs (h.ha i p hp).2.1 (by simp),(hs.tag _ (h.ha i p hp).1.lt).trans (h.ha i p hp).2.1,Nat.le_trans (h.ha i p hp).2.2 hM⟩
 ma:=fun i p hp=>⟨(h.ma i p hp).1.stays hs (h.ma i p hp).2.1 (by simp),(hs.tag _ (h.ma i p hp).1.lt).trans (h.ma i p hp).2.1,Nat.le_trans (h.ma i p hp).2.2.1 hM,Nat.le_trans (h.ma i p hp).2.2.2 (by omega)⟩
 st:=fun i p hp=>⟨(h.st i p hp).1.stays hs (by simp),(h.st i p hp).2.1,(h.st i p hp).2.2.1,(h.st i p hp).2.2.2.1,Nat.le_trans (h.st i p hp).2.2.2.2 hM⟩
 ta:=fun i p hp=>⟨(h.ta i p hp).1.stays hs (by simp),(h.ta i p hp).2.1,Nat.le_trans (h.ta i p hp).2.2 hM⟩
 ls:=fun i p hp=>⟨(h.ls i p hp).1.stays hs (by simp),(h.ls i p hp).2.stays hs (by simp)⟩
 npl:=Nat.le_trans h.npl hM
 old:=fun g hg=>(hs.tag g (Nat.lt_of_lt_of_le hg h.bsz)).trans (h.old g hg)
 two:=h.two
 bsz:=Nat.le_trans h.bsz hs.size
 kt:=h.kt.below (hs.below h.bsz h.old (by simp)) h.two
 ht:=h.ht.below (hs.below h.bsz h.old (by simp)) h.two
 bound:=hbd
 sizes:=hsz
theorem Inv.uscal {T T':Tags} {base B M M':Nat} {σ:Sig} {w w':World} (h:Inv T base B M σ w) (hM:M≤M') (f' k' n':ByteArray) (a' b' c':I64)
  (hs:Stays T T' w w' (fun c=>c=(1,0)))
  (hw:At T' w' (1,0) B 44 ({ σ with file:=f',key:=k',nonce:=n',fr:=a',n:=b',ex:=c' }:Sig).cells)
  (hbd:M'≤1073741824∧({ σ with file:=f',key:=k',nonce:=n',fr:=a',n:=b',ex:=c' }:Sig).sp.length≤M'∧({ σ with file:=f',key:=k',nonce:=n',fr:=a',n:=b',ex:=c' }:Sig).si.length≤M'∧({ σ with file:=f',key:=k',nonce:=n',fr:=a',n:=b',ex:=c' }:Sig).so.length≤M'∧({ σ with file:=f',key:=k',nonce:=n',fr:=a',n:=b',ex:=c' }:Sig).ha.length≤M'∧({ σ with file:=f',key:=k',nonce:=n',fr:=a',n:=b',ex:=c' }:Sig).wo.length≤M'∧({ σ with file:=f',key:=k',nonce:=n',fr:=a',n:=b',ex:=c' }:Sig).re.length≤M'∧({ σ with file:=f',key:=k',nonce:=n',fr:=a',n:=b',ex:=c' }:Sig).ls.length≤M'∧({ σ with file:=f',key:=k',nonce:=n',fr:=a',n:=b',ex:=c' }:Sig).ma.length≤M'∧({ σ with file:=f',key:=k',nonce:=n',fr:=a',n:=b',ex:=c' }:Sig).st.length≤M'∧({ σ with file:=f',key:=k',nonce:=n',fr:=a',n:=b',ex:=c' }:Sig).ta.length≤M')
  (hsz:(∀ x ∈ ({ σ with file:=f',key:=k',nonce:=n',fr:=a',n:=b',ex:=c' }:Sig).wo,x.size≤512*M'+65536)∧(∀ x ∈ ({ σ with file:=f',key:=k',nonce:=n',fr:=a',n:=b',ex:=c' }:Sig).re,x.size≤512*M'+65536)∧(∀ p ∈ ({ σ with file:=f',key:=k',nonce:=n',fr:=a',n:=b',ex:=c' }:Sig).ls,p.l.length≤M'∧∀ x ∈ p.l,x.size≤512*M'+65536)∧({ σ with file:=f',key:=k',nonce:=n',fr:=a',n:=b',ex:=c' }:Sig).file.size≤512*M'+65536∧({ σ with file:=f',key:=k',nonce:=n',fr:=a',n:=b',ex:=c' }:Sig).key.size≤512*M'+65536∧({ σ with file:=f',key:=k',nonce:=n',fr:=a',n:=b',ex:=c' }:Sig).nonce.size≤512*M'+65536):
  Inv T' base B M' { σ with file:=f',key:=k',nonce:=n',fr:=a',n:=b',ex:=c' } w' where
 hw:=hw
 rsp:=h.rsp.stays hs (by simp)
 rsi:=h.rsi.stays hs (by simp)
 rso:=h.rso.stays hs (by simp)
 rwr:=h.rwr.stays hs (by simp)
 rrd:=h.rrd.stays hs (by simp)
 rpl:=h.rpl.stays hs (by simp)
 rha:=h.rha.stays hs (by simp)
 rma:=h.rma.stays hs (by simp)
 rst:=h.rst.stays hs (by simp)
 rta:=h.rta.stays hs (by simp)
 rwo:=h.rwo.stays hs (by simp)
 rre:=h.rre.stays hs (by simp)
 rls:=h.rls.stays hs (by simp)
 rlw:=h.rlw.stays hs (by simp)
 sp:=fun i p hp=>⟨(h.sp i p hp).1.stays hs (by simp),(h.sp i p hp).2.stays hs (by simp)⟩
 si:=fun i p hp=>⟨⟨(h.si i p hp).1.1.stays hs (by simp),(h.si i p hp).1.2.stays hs (by simp)⟩,(h.si i p hp).2.1.stays hs (by simp),(h.si i p hp).2.2.stays hs (by simp)⟩
 so:=fun i p hp=>⟨⟨(h.so i p hp).1.1.stays hs (by simp),(h.so i p hp).1.2.stays hs (by simp)⟩,(h.so i p hp).2.1.stays hs (by simp),(h.so i p hp).2.2.stays hs (by simp)⟩
 pl:=fun i p hp=>⟨(h.pl i p hp).1.stays hs (by simp),(h.pl i p hp).2.1.stays hs (by simp),(h.pl i p hp).2.2.1,(h.pl i p hp).2.2.2.1,Nat.le_trans (h.pl i p hp).2.2.2.2 (by omega)⟩
 wr:=fun i p hp=>⟨(h.wr i p hp).1.stays hs (by simp),(h.wr i p hp).2.1.stays hs (by simp),(h.wr i p hp).2.2.1.more hM,(h.wr i p hp).2.2.2⟩
 rd:=fun i p hp=>⟨(h.rd i p hp).1.stays hs (by simp),(h.rd i p hp).2.1.stays hs (by simp),(h.rd i p hp).2.2.1.more hM,(h.rd i p hp).2.2.2⟩
 spK:=fun i p hp=>(h.spK i p hp).more hM
 siK:=fun i p hp=>(h.siK i p hp).more hM
 soK:=fun i p hp=>(h.soK i p hp).more hM
 nwr:=Nat.le_trans h.nwr hM
 nrd:=Nat.le_trans h.nrd hM
 ha:=fun i p hp=>⟨(h.ha i p hp).1.stays hs (h.ha i p hp).2.1 (by simp),(hs.tag _ (h.ha i p hp).1.lt).trans (h.ha i p hp).2.1,Nat.le_trans (h.ha i p hp).2.2 hM⟩
 ma:=fun i p hp=>⟨(h.ma i p hp).1.stays hs (h.ma i p hp).2.1 (by simp),(hs.tag _ (h.ma i p hp).1.lt).trans (h.ma i p hp).2.1,Nat.le_trans (h.ma i p hp).2.2.1 hM,Nat.le_trans (h.ma i p hp).2.2.2 (by omega)⟩
 st:=fun i p hp=>⟨(h.st i p hp).1.stays hs (by simp),(h.st i p hp).2.1,(h.st i p hp).2.2.1,(h.st i p hp).2.2.2.1,Nat.le_trans (h.st i p hp).2.2.2.2 hM⟩
 ta:=fun i p hp=>⟨(h.ta i p hp).1.stays hs (by simp),(h.ta i p hp).2.1,Nat.le_trans (h.ta i p hp).2.2 hM⟩
 ls:=fun i p hp=>⟨(h.ls i p hp).1.stays hs (by simp),(h.ls i p hp).2.stays hs (by simp)⟩
 npl:=Nat.le_trans h.npl hM
 old:=fun g hg=>(hs.tag g (Nat.lt_of_lt_of_le hg h.bsz)).trans (h.old g hg)
 two:=h.two
 bsz:=Nat.le_trans h.bsz hs.size
 kt:=h.kt.below (hs.below h.bsz h.old (by simp)) h.two
 ht:=h.ht.below (hs.below h.bsz h.old (by simp)) h.two
 bound:=hbd
 sizes:=hsz
theorem Inv.ure {T T':Tags} {base B M M':Nat} {σ:Sig} {w w':World} (h:Inv T base B M σ w) (hM:M≤M') (v':Value) (re':List ByteArray)
  (hs:Stays T T' w w' (fun c=>c=(1,0)∨c=(2,14)))
  (hw:At T' w' (1,0) B 44 ({ σ with vre:=v',re:=re' }:Sig).cells)
  (nrre:RowT T' w' (2,14) 9 1 v' re'.length (strV re'))
  (hbd:M'≤1073741824∧({ σ with vre:=v',re:=re' }:Sig).sp.length≤M'∧({ σ with vre:=v',re:=re' }:Sig).si.length≤M'∧({ σ with vre:=v',re:=re' }:Sig).so.length≤M'∧({ σ with vre:=v',re:=re' }:Sig).ha.length≤M'∧({ σ with vre:=v',re:=re' }:Sig).wo.length≤M'∧({ σ with vre:=v',re:=re' }:Sig).re.length≤M'∧({ σ with vre:=v',re:=re' }:Sig).ls.length≤M'∧({ σ with vre:=v',re:=re' }:Sig).ma.length≤M'∧({ σ with vre:=v',re:=re' }:Sig).st.length≤M'∧({ σ with vre:=v',re:=re' }:Sig).ta.length≤M')
  (hsz:(∀ x ∈ ({ σ with vre:=v',re:=re' }:Sig).wo,x.size≤512*M'+65536)∧(∀ x ∈ ({ σ with vre:=v',re:=re' }:Sig).re,x.size≤512*M'+65536)∧(∀ p ∈ ({ σ with vre:=v',re:=re' }:Sig).ls,p.l.length≤M'∧∀ x ∈ p.l,x.size≤512*M'+65536)∧({ σ with vre:=v',re:=re' }:Sig).file.size≤512*M'+65536∧({ σ with vre:=v',re:=re' }:Sig).key.size≤512*M'+65536∧({ σ with vre:=v',re:=re' }:Sig).nonce.size≤512*M'+65536):
  Inv T' base B M' { σ with vre:=v',re:=re' } w' where
 hw:=hw
 rsp:=h.rsp.stays hs (by simp)
 rsi:=h.rsi.stays hs (by simp)
 rso:=h.rso.stays hs (by simp)
 rwr:=h.rwr.stays hs (by simp)
 rrd:=h.rrd.stays hs (by simp)
 rpl:=h.rpl.stays hs (by simp)
 rha:=h.rha.stays hs (by simp)
 rma:=h.rma.stays hs (by simp)
 rst:=h.rst.stays hs (by simp)
 rta:=h.rta.stays hs (by simp)
 rwo:=h.rwo.stays hs (by simp)
 rre:=nrre
 rls:=h.rls.stays hs (by simp)
 rlw:=h.rlw.stays hs (by simp)
 sp:=fun i p hp=>⟨(h.sp i p hp).1.stays hs (by simp),(h.sp i p hp).2.stays hs (by simp)⟩
 si:=fun i p hp=>⟨⟨(h.si i p hp).1.1.stays hs (by simp),(h.si i p hp).1.2.stays hs (by simp)⟩,(h.si i p hp).2.1.stays hs (by simp),(h.si i p hp).2.2.stays hs (by simp)⟩
 so:=fun i p hp=>⟨⟨(h.so i p hp).1.1.stays hs (by simp),(h.so i p hp).1.2.stays hs (by simp)⟩,(h.so i p hp).2.1.stays hs (by simp),(h.so i p hp).2.2.stays hs (by simp)⟩
 pl:=fun i p hp=>⟨(h.pl i p hp).1.stays hs (by simp),(h.pl i p hp).2.1.stays hs (by simp),(h.pl i p hp).2.2.1,(h.pl i p hp).2.2.2.1,Nat.le_trans (h.pl i p hp).2.2.2.2 (by omega)⟩
 wr:=fun i p hp=>⟨(h.wr i p hp).1.stays hs (by simp),(h.wr i p hp).2.1.stays hs (by simp),(h.wr i p hp).2.2.1.more hM,(h.wr i p hp).2.2.2⟩
 rd:=fun i p hp=>⟨(h.rd i p hp).1.stays hs (by simp),(h.rd i p hp).2.1.stays hs (by simp),(h.rd i p hp).2.2.1.more hM,(h.rd i p hp).2.2.2⟩
 spK:=fun i p hp=>(h.spK i p hp).more hM
 siK:=fun i p hp=>(h.siK i p hp).more hM
 soK:=fun i p hp=>(h.soK i p hp).more hM
 nwr:=Nat.le_trans h.nwr hM
 nrd:=Nat.le_trans h.nrd hM
 ha:=fun i p hp=>⟨(h.ha i p hp).1.stays hs (h.ha i p hp).2.1 (by simp),(hs.tag _ (h.ha i p hp).1.lt).trans (h.ha i p hp).2.1,Nat.le_trans (h.ha i p hp).2.2 hM⟩
 ma:=fun i p hp=>⟨(h.ma i p hp).1.stays hs (h.ma i p hp).2.1 (by simp),(hs.tag _ (h.ma i p hp).1.lt).trans (h.ma i p hp).2.1,Nat.le_trans (h.ma i p hp).2.2.1 hM,Nat.le_trans (h.ma i p hp).2.2.2 (by omega)⟩
 st:=fun i p hp=>⟨(h.st i p hp).1.stays hs (by simp),(h.st i p hp).2.1,(h.st i p hp).2.2.1,(h.st i p hp).2.2.2.1,Nat.le_trans (h.st i p hp).2.2.2.2 hM⟩
 ta:=fun i p hp=>⟨(h.ta i p hp).1.stays hs (by simp),(h.ta i p hp).2.1,Nat.le_trans (h.ta i p hp).2.2 hM⟩
 ls:=fun i p hp=>⟨(h.ls i p hp).1.stays hs (by simp),(h.ls i p hp).2.stays hs (by simp)⟩
 npl:=Nat.le_trans h.npl hM
 old:=fun g hg=>(hs.tag g (Nat.lt_of_lt_of_le hg h.bsz)).trans (h.old g hg)
 two:=h.two
 bsz:=Nat.le_trans h.bsz hs.size
 kt:=h.kt.below (hs.below h.bsz h.old (by simp)) h.two
 ht:=h.ht.below (hs.below h.bsz h.old (by simp)) h.two
 bound:=hbd
 sizes:=hsz
theorem Inv.usp {T T':Tags} {base B M M':Nat} {σ:Sig} {w w':World} (h:Inv T base B M σ w) (hM:M≤M') (v':Value) (sp':List SpringR)
  (hs:Stays T T' w w' (fun c=>c=(1,0)∨c=(2,0)))
  (hw:At T' w' (1,0) B 44 ({ σ with vsp:=v',sp:=sp' }:Sig).cells)
  (nrsp:RowT T' w' (2,0) 91 2 v' sp'.length (sp'.flatMap fun p=>ptrs p.bx p.bm))
  (nsp:∀ i p,sp'[i]? = some p→At T' w' (20,i) p.bx 171 p.cells∧At T' w' (21,i) p.bm 171 p.cells)
  (nspK:∀ (i:Nat) (p:SpringR),sp'[i]? = some p→SpK M' p)
  (hbd:M'≤1073741824∧({ σ with vsp:=v',sp:=sp' }:Sig).sp.length≤M'∧({ σ with vsp:=v',sp:=sp' }:Sig).si.length≤M'∧({ σ with vsp:=v',sp:=sp' }:Sig).so.length≤M'∧({ σ with vsp:=v',sp:=sp' }:Sig).ha.length≤M'∧({ σ with vsp:=v',sp:=sp' }:Sig).wo.length≤M'∧({ σ with vsp:=v',sp:=sp' }:Sig).re.length≤M'∧({ σ with vsp:=v',sp:=sp' }:Sig).ls.length≤M'∧({ σ with vsp:=v',sp:=sp' }:Sig).ma.length≤M'∧({ σ with vsp:=v',sp:=sp' }:Sig).st.length≤M'∧({ σ with vsp:=v',sp:=sp' }:Sig).ta.length≤M')
  (hsz:(∀ x ∈ ({ σ with vsp:=v',sp:=sp' }:Sig).wo,x.size≤512*M'+65536)∧(∀ x ∈ ({ σ with vsp:=v',sp:=sp' }:Sig).re,x.size≤512*M'+65536)∧(∀ p ∈ ({ σ with vsp:=v',sp:=sp' }:Sig).ls,p.l.length≤M'∧∀ x ∈ p.l,x.size≤512*M'+65536)∧({ σ with vsp:=v',sp:=sp' }:Sig).file.size≤512*M'+65536∧({ σ with vsp:=v',sp:=sp' }:Sig).key.size≤512*M'+65536∧({ σ with vsp:=v',sp:=sp' }:Sig).nonce.size≤512*M'+65536):
  Inv T' base B M' { σ with vsp:=v',sp:=sp' } w' where
 hw:=hw
 rsp:=nrsp
 rsi:=h.rsi.stays hs (by simp)
 rso:=h.rso.stays hs (by simp)
 rwr:=h.rwr.stays hs (by simp)
 rrd:=h.rrd.stays hs (by simp)
 rpl:=h.rpl.stays hs (by simp)
 rha:=h.rha.stays hs (by simp)
 rma:=h.rma.stays hs (by simp)
 rst:=h.rst.stays hs (by simp)
 rta:=h.rta.stays hs (by simp)
 rwo:=h.rwo.stays hs (by simp)
 rre:=h.rre.stays hs (by simp)
 rls:=h.rls.stays hs (by simp)
 rlw:=h.rlw.stays hs (by simp)
 sp:=nsp
 si:=fun i p hp=>⟨⟨(h.si i p hp).1.1.stays hs (by simp),(h.si i p hp).1.2.stays hs (by simp)⟩,(h.si i p hp).2.1.stays hs (by simp),(h.si i p hp).2.2.stays hs (by simp)⟩
 so:=fun i p hp=>⟨⟨(h.so i p hp).1.1.stays hs (by simp),(h.so i p hp).1.2.stays hs (by simp)⟩,(h.so i p hp).2.1.stays hs (by simp),(h.so i p hp).2.2.stays hs (by simp)⟩
 pl:=fun i p hp=>⟨(h.pl i p hp).1.stays hs (by simp),(h.pl i p hp).2.1.stays hs (by simp),(h.pl i p hp).2.2.1,(h.pl i p hp).2.2.2.1,Nat.le_trans (h.pl i p hp).2.2.2.2 (by omega)⟩
 wr:=fun i p hp=>⟨(h.wr i p hp).1.stays hs (by simp),(h.wr i p hp).2.1.stays hs (by simp),(h.wr i p hp).2.2.1.more hM,(h.wr i p hp).2.2.2⟩
 rd:=fun i p hp=>⟨(h.rd i p hp).1.stays hs (by simp),(h.rd i p hp).2.1.stays hs (by simp),(h.rd i p hp).2.2.1.more hM,(h.rd i p hp).2.2.2⟩
 spK:=nspK
 siK:=fun i p hp=>(h.siK i p hp).more hM
 soK:=fun i p hp=>(h.soK i p hp).more hM
 nwr:=Nat.le_trans h.nwr hM
 nrd:=Nat.le_trans h.nrd hM
 ha:=fun i p hp=>⟨(h.ha i p hp).1.stays hs (h.ha i p hp).2.1 (by simp),(hs.tag _ (h.ha i p hp).1.lt).trans (h.ha i p hp).2.1,Nat.le_trans (h.ha i p hp).2.2 hM⟩
 ma:=fun i p hp=>⟨(h.ma i p hp).1.stays hs (h.ma i p hp).2.1 (by simp),(hs.tag _ (h.ma i p hp).1.lt).trans (h.ma i p hp).2.1,Nat.le_trans (h.ma i p hp).2.2.1 hM,Nat.le_trans (h.ma i p hp).2.2.2 (by omega)⟩
 st:=fun i p hp=>⟨(h.st i p hp).1.stays hs (by simp),(h.st i p hp).2.1,(h.st i p hp).2.2.1,(h.st i p hp).2.2.2.1,Nat.le_trans (h.st i p hp).2.2.2.2 hM⟩
 ta:=fun i p hp=>⟨(h.ta i p hp).1.stays hs (by simp),(h.ta i p hp).2.1,Nat.le_trans (h.ta i p hp).2.2 hM⟩
 ls:=fun i p hp=>⟨(h.ls i p hp).1.stays hs (by simp),(h.ls i p hp).2.stays hs (by simp)⟩
 npl:=Nat.le_trans h.npl hM
 old:=fun g hg=>(hs.tag g (Nat.lt_of_lt_of_le hg h.bsz)).trans (h.old g hg)
 two:=h.two
 bsz:=Nat.le_trans h.bsz hs.size
 kt:=h.kt.below (hs.below h.bsz h.old (by simp)) h.two
 ht:=h.ht.below (hs.below h.bsz h.old (by simp)) h.two
 bound:=hbd
 sizes:=hsz
theorem Inv.uls {T T':Tags} {base B M M':Nat} {σ:Sig} {w w':World} (h:Inv T base B M σ w) (hM:M≤M') (v' u':Value) (ls':List ListR)
  (hs:Stays T T' w w' (fun c=>c=(1,0)∨c=(2,15)∨c=(2,16)∨c.1=31∨c.1=32))
  (hw:At T' w' (1,0) B 44 ({ σ with vls:=v',vlw:=u',ls:=ls' }:Sig).cells)
  (nrls:RowT T' w' (2,15) 41 1 v' ls'.length (ls'.map (·.v)))
  (nrlw:RowT T' w' (2,16) 41 1 u' ls'.length (ls'.map (·.v2)))
  (nls:∀ i p,ls'[i]? = some p→Lst T' w' (31,i) p.v p.l∧Lst T' w' (32,i) p.v2 p.l)
  (hbd:M'≤1073741824∧({ σ with vls:=v',vlw:=u',ls:=ls' }:Sig).sp.length≤M'∧({ σ with vls:=v',vlw:=u',ls:=ls' }:Sig).si.length≤M'∧({ σ with vls:=v',vlw:=u',ls:=ls' }:Sig).so.length≤M'∧({ σ with vls:=v',vlw:=u',ls:=ls' }:Sig).ha.length≤M'∧({ σ with vls:=v',vlw:=u',ls:=ls' }:Sig).wo.length≤M'∧({ σ with vls:=v',vlw:=u',ls:=ls' }:Sig).re.length≤M'∧({ σ with vls:=v',vlw:=u',ls:=ls' }:Sig).ls.length≤M'∧({ σ with vls:=v',vlw:=u',ls:=ls' }:Sig).ma.length≤M'∧({ σ with vls:=v',vlw:=u',ls:=ls' }:Sig).st.length≤M'∧({ σ with vls:=v',vlw:=u',ls:=ls' }:Sig).ta.length≤M')
  (hsz:(∀ x ∈ ({ σ with vls:=v',vlw:=u',ls:=ls' }:Sig).wo,x.size≤512*M'+65536)∧(∀ x ∈ ({ σ with vls:=v',vlw:=u',ls:=ls' }:Sig).re,x.size≤512*M'+65536)∧(∀ p ∈ ({ σ with vls:=v',vlw:=u',ls:=ls' }:Sig).ls,p.l.length≤M'∧∀ x ∈ p.l,x.size≤512*M'+65536)∧({ σ with vls:=v',vlw:=u',ls:=ls' }:Sig).file.size≤512*M'+65536∧({ σ with vls:=v',vlw:=u',ls:=ls' }:Sig).key.size≤512*M'+65536∧({ σ with vls:=v',vlw:=u',ls:=ls' }:Sig).nonce.size≤512*M'+65536):
  Inv T' base B M' { σ with vls:=v',vlw:=u',ls:=ls' } w' where
 hw:=hw
 rsp:=h.rsp.stays hs (by simp)
 rsi:=h.rsi.stays hs (by simp)
 rso:=h.rso.stays hs (by simp)
 rwr:=h.rwr.stays hs (by simp)
 rrd:=h.rrd.stays hs (by simp)
 rpl:=h.rpl.stays hs (by simp)
 rha:=h.rha.stays hs (by simp)
 rma:=h.rma.stays hs (by simp)
 rst:=h.rst.stays hs (by simp)
 rta:=h.rta.stays hs (by simp)
 rwo:=h.rwo.stays hs (by simp)
 rre:=h.rre.stays hs (by simp)
 rls:=nrls
 rlw:=nrlw
 sp:=fun i p hp=>⟨(h.sp i p hp).1.stays hs (by simp),(h.sp i p hp).2.stays hs (by simp)⟩
 si:=fun i p hp=>⟨⟨(h.si i p hp).1.1.stays hs (by simp),(h.si i p hp).1.2.stays hs (by simp)⟩,(h.si i p hp).2.1.stays hs (by simp),(h.si i p hp).2.2.stays hs (by simp)⟩
 so:=fun i p hp=>⟨⟨(h.so i p hp).1.1.stays hs (by simp),(h.so i p hp).1.2.stays hs (by simp)⟩,(h.so i p hp).2.1.stays hs (by simp),(h.so i p hp).2.2.stays hs (by simp)⟩
 pl:=fun i p hp=>⟨(h.pl i p hp).1.stays hs (by simp),(h.pl i p hp).2.1.stays hs (by simp),(h.pl i p hp).2.2.1,(h.pl i p hp).2.2.2.1,Nat.le_trans (h.pl i p hp).2.2.2.2 (by omega)⟩
 wr:=fun i p hp=>⟨(h.wr i p hp).1.stays hs (by simp),(h.wr i p hp).2.1.stays hs (by simp),(h.wr i p hp).2.2.1.more hM,(h.wr i p hp).2.2.2⟩
 rd:=fun i p hp=>⟨(h.rd i p hp).1.stays hs (by simp),(h.rd i p hp).2.1.stays hs (by simp),(h.rd i p hp).2.2.1.more hM,(h.rd i p hp).2.2.2⟩
 spK:=fun i p hp=>(h.spK i p hp).more hM
 siK:=fun i p hp=>(h.siK i p hp).more hM
 soK:=fun i p hp=>(h.soK i p hp).more hM
 nwr:=Nat.le_trans h.nwr hM
 nrd:=Nat.le_trans h.nrd hM
 ha:=fun i p hp=>⟨(h.ha i p hp).1.stays hs (h.ha i p hp).2.1 (by simp),(hs.tag _ (h.ha i p hp).1.lt).trans (h.ha i p hp).2.1,Nat.le_trans (h.ha i p hp).2.2 hM⟩
 ma:=fun i p hp=>⟨(h.ma i p hp).1.stays hs (h.ma i p hp).2.1 (by simp),(hs.tag _ (h.ma i p hp).1.lt).trans (h.ma i p hp).2.1,Nat.le_trans (h.ma i p hp).2.2.1 hM,Nat.le_trans (h.ma i p hp).2.2.2 (by omega)⟩
 st:=fun i p hp=>⟨(h.st i p hp).1.stays hs (by simp),(h.st i p hp).2.1,(h.st i p hp).2.2.1,(h.st i p hp).2.2.2.1,Nat.le_trans (h.st i p hp).2.2.2.2 hM⟩
 ta:=fun i p hp=>⟨(h.ta i p hp).1.stays hs (by simp),(h.ta i p hp).2.1,Nat.le_trans (h.ta i p hp).2.2 hM⟩
 ls:=nls
 npl:=Nat.le_trans h.npl hM
 old:=fun g hg=>(hs.tag g (Nat.lt_of_lt_of_le hg h.bsz)).trans (h.old g hg)
 two:=h.two
 bsz:=Nat.le_trans h.bsz hs.size
 kt:=h.kt.below (hs.below h.bsz h.old (by simp)) h.two
 ht:=h.ht.below (hs.below h.bsz h.old (by simp)) h.two
 bound:=hbd
 sizes:=hsz
theorem Inv.usi {T T':Tags} {base B M M':Nat} {σ:Sig} {w w':World} (h:Inv T base B M σ w) (hM:M≤M') (v':Value) (si':List SinkR) (hold:∀ (i:Nat) (s:SinkR),σ.si[i]? = some s→∃ s':SinkR,si'[i]? = some s'∧s'.bx=s.bx∧s'.bm=s.bm)
  (hs:Stays T T' w w' (fun c=>c=(1,0)∨c=(2,1)))
  (hw:At T' w' (1,0) B 44 ({ σ with vsi:=v',si:=si' }:Sig).cells)
  (nrsi:RowT T' w' (2,1) 96 2 v' si'.length (si'.flatMap fun p=>ptrs p.bx p.bm))
  (nsi:∀ i p,si'[i]? = some p→(At T' w' (22,i) p.bx 173 (p.cells p.gx)∧At T' w' (23,i) p.gx 3 (intV p.plan))∧At T' w' (24,i) p.bm 173 (p.cells p.gm)∧At T' w' (25,i) p.gm 3 (intV p.plan))
  (nsiK:∀ (i:Nat) (p:SinkR),si'[i]? = some p→SiK M' p)
  (hbd:M'≤1073741824∧({ σ with vsi:=v',si:=si' }:Sig).sp.length≤M'∧({ σ with vsi:=v',si:=si' }:Sig).si.length≤M'∧({ σ with vsi:=v',si:=si' }:Sig).so.length≤M'∧({ σ with vsi:=v',si:=si' }:Sig).ha.length≤M'∧({ σ with vsi:=v',si:=si' }:Sig).wo.length≤M'∧({ σ with vsi:=v',si:=si' }:Sig).re.length≤M'∧({ σ with vsi:=v',si:=si' }:Sig).ls.length≤M'∧({ σ with vsi:=v',si:=si' }:Sig).ma.length≤M'∧({ σ with vsi:=v',si:=si' }:Sig).st.length≤M'∧({ σ with vsi:=v',si:=si' }:Sig).ta.length≤M')
  (hsz:(∀ x ∈ ({ σ with vsi:=v',si:=si' }:Sig).wo,x.size≤512*M'+65536)∧(∀ x ∈ ({ σ with vsi:=v',si:=si' }:Sig).re,x.size≤512*M'+65536)∧(∀ p ∈ ({ σ with vsi:=v',si:=si' }:Sig).ls,p.l.length≤M'∧∀ x ∈ p.l,x.size≤512*M'+65536)∧({ σ with vsi:=v',si:=si' }:Sig).file.size≤512*M'+65536∧({ σ with vsi:=v',si:=si' }:Sig).key.size≤512*M'+65536∧({ σ with vsi:=v',si:=si' }:Sig).nonce.size≤512*M'+65536):
  Inv T' base B M' { σ with vsi:=v',si:=si' } w' where
 hw:=hw
 rsp:=h.rsp.stays hs (by simp)
 rsi:=nrsi
 rso:=h.rso.stays hs (by simp)
 rwr:=h.rwr.stays hs (by simp)
 rrd:=h.rrd.stays hs (by simp)
 rpl:=h.rpl.stays hs (by simp)
 rha:=h.rha.stays hs (by simp)
 rma:=h.rma.stays hs (by simp)
 rst:=h.rst.stays hs (by simp)
 rta:=h.rta.stays hs (by simp)
 rwo:=h.rwo.stays hs (by simp)
 rre:=h.rre.stays hs (by simp)
 rls:=h.rls.stays hs (by simp)
 rlw:=h.rlw.stays hs (by simp)
 sp:=fun i p hp=>⟨(h.sp i p hp).1.stays hs (by simp),(h.sp i p hp).2.stays hs (by simp)⟩
 si:=nsi
 so:=fun i p hp=>⟨⟨(h.so i p hp).1.1.stays hs (by simp),(h.so i p hp).1.2.stays hs (by simp)⟩,(h.so i p hp).2.1.stays hs (by simp),(h.so i p hp).2.2.stays hs (by simp)⟩
 pl:=fun i p hp=>⟨(h.pl i p hp).1.stays hs (by simp),(h.pl i p hp).2.1.stays hs (by simp),(h.pl i p hp).2.2.1,(h.pl i p hp).2.2.2.1,Nat.le_trans (h.pl i p hp).2.2.2.2 (by omega)⟩
 wr:=fun i p hp=>⟨(h.wr i p hp).1.stays hs (by simp),(h.wr i p hp).2.1.stays hs (by simp),(h.wr i p hp).2.2.1.more hM,by obtain ⟨s,a,b,c⟩:=(h.wr i p hp).2.2.2;obtain ⟨s',a',b',c'⟩:=hold _ _ a;exact ⟨s',a',b'.trans b,c'.trans c⟩⟩
 rd:=fun i p hp=>⟨(h.rd i p hp).1.stays hs (by simp),(h.rd i p hp).2.1.stays hs (by simp),(h.rd i p hp).2.2.1.more hM,(h.rd i p hp).2.2.2⟩
 spK:=fun i p hp=>(h.spK i p hp).more hM
 siK:=nsiK
 soK:=fun i p hp=>(h.soK i p hp).more hM
 nwr:=Nat.le_trans h.nwr hM
 nrd:=Nat.le_trans h.nrd hM
 ha:=fun i p hp=>⟨(h.ha i p hp).1.stays hs (h.ha i p hp).2.1 (by simp),(hs.tag _ (h.ha i p hp).1.lt).trans (h.ha i p hp).2.1,Nat.le_trans (h.ha i p hp).2.2 hM⟩
 ma:=fun i p hp=>⟨(h.ma i p hp).1.stays hs (h.ma i p hp).2.1 (by simp),(hs.tag _ (h.ma i p hp).1.lt).trans (h.ma i p hp).2.1,Nat.le_trans (h.ma i p hp).2.2.1 hM,Nat.le_trans (h.ma i p hp).2.2.2 (by omega)⟩
 st:=fun i p hp=>⟨(h.st i p hp).1.stays hs (by simp),(h.st i p hp).2.1,(h.st i p hp).2.2.1,(h.st i p hp).2.2.2.1,Nat.le_trans (h.st i p hp).2.2.2.2 hM⟩
 ta:=fun i p hp=>⟨(h.ta i p hp).1.stays hs (by simp),(h.ta i p hp).2.1,Nat.le_trans (h.ta i p hp).2.2 hM⟩
 ls:=fun i p hp=>⟨(h.ls i p hp).1.stays hs (by simp),(h.ls i p hp).2.stays hs (by simp)⟩
 npl:=Nat.le_trans h.npl hM
 old:=fun g hg=>(hs.tag g (Nat.lt_of_lt_of_le hg h.bsz)).trans (h.old g hg)
 two:=h.two
 bsz:=Nat.le_trans h.bsz hs.size
 kt:=h.kt.below (hs.below h.bsz h.old (by simp)) h.two
 ht:=h.ht.below (hs.below h.bsz h.old (by simp)) h.two
 bound:=hbd
 sizes:=hsz
theorem Inv.uso {T T':Tags} {base B M M':Nat} {σ:Sig} {w w':World} (h:Inv T base B M σ w) (hM:M≤M') (v':Value) (so':List SourceR) (hold:∀ (i:Nat) (s:SourceR),σ.so[i]? = some s→∃ s':SourceR,so'[i]? = some s'∧s'.bx=s.bx∧s'.bm=s.bm)
  (hs:Stays T T' w w' (fun c=>c=(1,0)∨c=(2,2)))
  (hw:At T' w' (1,0) B 44 ({ σ with vso:=v',so:=so' }:Sig).cells)
  (nrso:RowT T' w' (2,2) 100 2 v' so'.length (so'.flatMap fun p=>ptrs p.bx p.bm))
  (nso:∀ i p,so'[i]? = some p→(At T' w' (26,i) p.bx 175 (p.cells p.gx)∧At T' w' (27,i) p.gx 3 (intV p.plan))∧At T' w' (28,i) p.bm 175 (p.cells p.gm)∧At T' w' (29,i) p.gm 3 (intV p.plan))
  (nsoK:∀ (i:Nat) (p:SourceR),so'[i]? = some p→SoK M' p)
  (hbd:M'≤1073741824∧({ σ with vso:=v',so:=so' }:Sig).sp.length≤M'∧({ σ with vso:=v',so:=so' }:Sig).si.length≤M'∧({ σ with vso:=v',so:=so' }:Sig).so.length≤M'∧({ σ with vso:=v',so:=so' }:Sig).ha.length≤M'∧({ σ with vso:=v',so:=so' }:Sig).wo.length≤M'∧({ σ with vso:=v',so:=so' }:Sig).re.length≤M'∧({ σ with vso:=v',so:=so' }:Sig).ls.length≤M'∧({ σ with vso:=v',so:=so' }:Sig).ma.length≤M'∧({ σ with vso:=v',so:=so' }:Sig).st.length≤M'∧({ σ with vso:=v',so:=so' }:Sig).ta.length≤M')
  (hsz:(∀ x ∈ ({ σ with vso:=v',so:=so' }:Sig).wo,x.size≤512*M'+65536)∧(∀ x ∈ ({ σ with vso:=v',so:=so' }:Sig).re,x.size≤512*M'+65536)∧(∀ p ∈ ({ σ with vso:=v',so:=so' }:Sig).ls,p.l.length≤M'∧∀ x ∈ p.l,x.size≤512*M'+65536)∧({ σ with vso:=v',so:=so' }:Sig).file.size≤512*M'+65536∧({ σ with vso:=v',so:=so' }:Sig).key.size≤512*M'+65536∧({ σ with vso:=v',so:=so' }:Sig).nonce.size≤512*M'+65536):
  Inv T' base B M' { σ with vso:=v',so:=so' } w' where
 hw:=hw
 rsp:=h.rsp.stays hs (by simp)
 rsi:=h.rsi.stays hs (by simp)
 rso:=nrso
 rwr:=h.rwr.stays hs (by simp)
 rrd:=h.rrd.stays hs (by simp)
 rpl:=h.rpl.stays hs (by simp)
 rha:=h.rha.stays hs (by simp)
 rma:=h.rma.stays hs (by simp)
 rst:=h.rst.stays hs (by simp)
 rta:=h.rta.stays hs (by simp)
 rwo:=h.rwo.stays hs (by simp)
 rre:=h.rre.stays hs (by simp)
 rls:=h.rls.stays hs (by simp)
 rlw:=h.rlw.stays hs (by simp)
 sp:=fun i p hp=>⟨(h.sp i p hp).1.stays hs (by simp),(h.sp i p hp).2.stays hs (by simp)⟩
 si:=fun i p hp=>⟨⟨(h.si i p hp).1.1.stays hs (by simp),(h.si i p hp).1.2.stays hs (by simp)⟩,(h.si i p hp).2.1.stays hs (by simp),(h.si i p hp).2.2.stays hs (by simp)⟩
 so:=nso
 pl:=fun i p hp=>⟨(h.pl i p hp).1.stays hs (by simp),(h.pl i p hp).2.1.stays hs (by simp),(h.pl i p hp).2.2.1,(h.pl i p hp).2.2.2.1,Nat.le_trans (h.pl i p hp).2.2.2.2 (by omega)⟩
 wr:=fun i p hp=>⟨(h.wr i p hp).1.stays hs (by simp),(h.wr i p hp).2.1.stays hs (by simp),(h.wr i p hp).2.2.1.more hM,(h.wr i p hp).2.2.2⟩
 rd:=fun i p hp=>⟨(h.rd i p hp).1.stays hs (by simp),(h.rd i p hp).2.1.stays hs (by simp),(h.rd i p hp).2.2.1.more hM,by obtain ⟨s,a,b,c⟩:=(h.rd i p hp).2.2.2;obtain ⟨s',a',b',c'⟩:=hold _ _ a;exact ⟨s',a',b'.trans b,c'.trans c⟩⟩
 spK:=fun i p hp=>(h.spK i p hp).more hM
 siK:=fun i p hp=>(h.siK i p hp).more hM
 soK:=nsoK
 nwr:=Nat.le_trans h.nwr hM
 nrd:=Nat.le_trans h.nrd hM
 ha:=fun i p hp=>⟨(h.ha i p hp).1.stays hs (h.ha i p hp).2.1 (by simp),(hs.tag _ (h.ha i p hp).1.lt).trans (h.ha i p hp).2.1,Nat.le_trans (h.ha i p hp).2.2 hM⟩
 ma:=fun i p hp=>⟨(h.ma i p hp).1.stays hs (h.ma i p hp).2.1 (by simp),(hs.tag _ (h.ma i p hp).1.lt).trans (h.ma i p hp).2.1,Nat.le_trans (h.ma i p hp).2.2.1 hM,Nat.le_trans (h.ma i p hp).2.2.2 (by omega)⟩
 st:=fun i p hp=>⟨(h.st i p hp).1.stays hs (by simp),(h.st i p hp).2.1,(h.st i p hp).2.2.1,(h.st i p hp).2.2.2.1,Nat.le_trans (h.st i p hp).2.2.2.2 hM⟩
 ta:=fun i p hp=>⟨(h.ta i p hp).1.stays hs (by simp),(h.ta i p hp).2.1,Nat.le_trans (h.ta i p hp).2.2 hM⟩
 ls:=fun i p hp=>⟨(h.ls i p hp).1.stays hs (by simp),(h.ls i p hp).2.stays hs (by simp)⟩
 npl:=Nat.le_trans h.npl hM
 old:=fun g hg=>(hs.tag g (Nat.lt_of_lt_of_le hg h.bsz)).trans (h.old g hg)
 two:=h.two
 bsz:=Nat.le_trans h.bsz hs.size
 kt:=h.kt.below (hs.below h.bsz h.old (by simp)) h.two
 ht:=h.ht.below (hs.below h.bsz h.old (by simp)) h.two
 bound:=hbd
 sizes:=hsz
theorem append_field {T:Tags} {w w1:World} {B f:Nat} {c:Nat × Nat} {e t:TypeId} {size:Nat} {v v':Value} {n n':Nat} {xs xs' cs:List Value} {o:Obj}
  (hB:At T w (1,0) B t cs) (hr:RowT T w c e size v n xs) (hc:c≠(1,0))
  (hg:(w.alloc o).grownBy w1 v.ownBlock) (hr':Row w1 0 e size v' n' xs') (hat:v'.ownBlock=v.ownBlock∨∃ g,v'.ownBlock=some g∧(w.alloc o).heap.size≤g):
  Stays T (fresh T w c) w (w1.setCell ⟨B,f,none⟩ v') (fun x=>x=(1,0)∨x=c)∧At (fresh T w c) (w1.setCell ⟨B,f,none⟩ v') (1,0) B t (cs.set f v')∧RowT (fresh T w c) (w1.setCell ⟨B,f,none⟩ v') c e size v' n' xs':=by
 have hBl:=hB.1.lt
 have hvB:some B≠v.ownBlock:=fun e=>hc (by rw[←hr.2 B e.symm,hB.2])
 have hB1:Blk w1 B t cs:=(hB.1.alloc o).grown hg hvB
 have hv'B:∀ g,v'.ownBlock=some g→g≠B∧fresh T w c g=c:=by
  intro g hgg
  rcases hat with h | ⟨g',h1,h2⟩
  ·rw[h] at hgg
   have ht:=hr.2 g hgg
   have hl:=(hr.1.lt g hgg).2
   exact ⟨fun e=>hc (by rw[←ht,e,hB.2]),by rw[fresh_old _ _ _ _ hl];exact ht⟩
  ·rw[h1] at hgg
   obtain rfl:=Option.some.inj hgg
   simp at h2
   exact ⟨by omega,fresh_new _ _ _ _ (by omega)⟩
 have hs1:=hg.size
 simp only[World.size_alloc] at hs1
 refine ⟨⟨hg.os,hg.tape,hg.output,?_,fun g hl=>fresh_old _ _ _ g hl,fun g hl hn=>?_⟩,⟨hB1.setCell_same f v',by rw[fresh_old _ _ _ _ hBl];exact hB.2⟩,?_,fun g hgg=>(hv'B g hgg).2⟩
 ·show w.heap.size≤(w1.heap.modify _ _).size
  simp;omega
 ·have hgB:g≠B:=fun e=>hn (.inl (by rw[e];exact hB.2))
  rw[Below.heap_setCell w1 ⟨B,f,none⟩ v' g hgB,hg.block g (by simp;omega) (fun e=>hn (.inr (hr.2 g e.symm))),Below.heap_alloc w o g hl]
 ·rcases hr'.2 with hn | ⟨g,cap,cur,rfl,hb,hgg,r⟩
  ·exact ⟨hr'.1,.inl hn⟩
  ·exact ⟨hr'.1,.inr ⟨g,cap,cur,rfl,hb,hgg.setCell_other _ _ (hv'B g rfl).1,r⟩⟩
theorem wpList_append_str {ops:Array Oper} {rest:List Oper} {o:Oper} {a:Act} {w:World} {Q:Exit→Act→World→Prop} (hgd:o.guard=none) (s x:Operand)
  (ho:o.op = .call { callee:=.builtin .append,args:=#[s,x],argTypes:=#[41,41] })
  (v:Value) (n:Nat) (xs:List ByteArray) (hs:a.eval s=v) (hown:Row w 0 9 1 v n (strV xs))
  (g:Nat) (y:ByteArray) (hx:a.eval x = .slice (some ⟨g,0,none⟩) 1 1) (hnew:w.cell? ⟨g,0,none⟩=some (.string y)) (hn:n≤1099511627)
  (h:∀ v' w',Row w' 0 9 1 v' (n+1) (strV (xs++[y]))→w.grownBy w' v.ownBlock→(v'.ownBlock=v.ownBlock∨∃ g,v'.ownBlock=some g∧w.heap.size≤g)→wpList Tryz.prog ops Q rest (a.put o.dst v') w'):wpList Tryz.prog ops Q (o::rest) a w:=by
 obtain ⟨i0,hi,hz0,hz1,hz2⟩:=info_parts infoStr
 refine wpList_plain hgd fun _ hK=>?_
 refine wp_append_row s x 41 ho i0 (.string ByteArray.empty) 16 Tryz.underlying41 hi hz0 hz1 hz2 rfl (by decide) v n (strV xs) hs hown ⟨g,0,none⟩ 1 1 [.string y] hx rfl ?_ ?_ ?_ ?_ (Nat.zero_le _) ?_
 ·intro j u hj
  match j,hj with
  | 0,hj=>simp at hj;subst hj;rw[Addr.add_mid];exact hnew
 ·intro u hu;simp at hu;subst hu;rfl
 ·unfold maxLen;omega
 ·omega
 ·intro v' w' h1 h2 h3
  exact hK _ _ (h v' w' (by simpa [strV] using h1) h2 h3)
set_option maxHeartbeats 800000 in
theorem word_any {T:Tags} {base B M M':Nat} {σ:Sig} {w:World} (h:Inv T base B M σ w) (s:ByteArray) (hM:M<M') (hM2:M'≤1073741824) (hs:s.size≤512*M'+65536):
  Calls Tryz.prog 16 #[.pointer (some ⟨B,0,none⟩),.string s] w fun e w'=>e = .returned (.tuple #[])∧∃ T' v',Inv T' base B M' { σ with vwo:=v',wo:=σ.wo++[s] } w'∧Stays T T' w w' (fun c=>c=(1,0)∨c=(2,10)):=by
 have c10:=h.hw.1.cell (i:=10) rfl
 have hf:=h.hw.1.frozen
 have hlen:=h.bound.2.2.2.2.2.1
 have hbd:=h.bound
 have key:=fun (w1:World) (o:Obj) (hg:(w.alloc o).grownBy w1 σ.vwo.ownBlock)=>(h.hw.1.alloc o).grown hg (fun e=>absurd (h.rwo.2 B e.symm) (by rw[h.hw.2];decide))
 have HK:=hide key
 have H:=hide h
 clear key h hbd
 go_enter Tryz.func16,Tryz.ntmps16
 go_wp2_with (at_builtin;refine wpList_append_str rfl (.tmp 8) (.tmp 10) rfl _ σ.wo.length σ.wo rfl (H.out.rwo.1.alloc _) _ s rfl (World.cell?_alloc_at _ _ _ _ rfl) ?_ ?_;omega;intro v1 w1 hr1 hg1 hat1;obtain ⟨g9,cap9,cur9,rfl,_⟩:=hr1.open (Nat.succ_pos _);have b1:=HK.out w1 _ hg1;have d10:=b1.cell (i:=10) rfl;have f1:=b1.frozen)
 go_end0
 refine ⟨rfl,fresh T w (2,10),.slice (some ⟨g9,0,none⟩) (σ.wo.length+1) cap9,?_,?_⟩
 ·have hh:=H.out
  obtain ⟨q1,q2,q3⟩:=append_field (f:=10) hh.hw hh.rwo (by decide) hg1 hr1 hat1
  refine hh.uwo (Nat.le_of_lt hM) _ (σ.wo++[s]) q1 q2 (by simpa using q3) ?_ ?_
  ·have:=hh.bound;simp;omega
  ·obtain ⟨z1,z2,z3,z4,z5,z6⟩:=hh.sizes
   refine ⟨fun x hx=>?_,fun x hx=>by have:=z2 x hx;omega,fun p hp=>⟨by have:=(z3 p hp).1;omega,fun x hx=>by have:=(z3 p hp).2 x hx;omega⟩,by show σ.file.size≤_;omega,by show σ.key.size≤_;omega,by show σ.nonce.size≤_;omega⟩
   rcases List.mem_append.1 hx with hx | hx
   ·have:=z1 x hx;omega
   ·rw[List.mem_singleton.1 hx];exact hs
 ·exact (append_field (f:=10) H.out.hw H.out.rwo (by decide) hg1 hr1 hat1).1
theorem Inv.same {T T':Tags} {base B M M':Nat} {σ:Sig} {w w':World} (h:Inv T base B M σ w) (hM:M≤M') (hM2:M'≤1073741824) (hs:Stays T T' w w' (fun _=>False)):Inv T' base B M' σ w' where
 hw:=h.hw.stays hs id
 rsp:=h.rsp.stays hs id
 rsi:=h.rsi.stays hs id
 rso:=h.rso.stays hs id
 rpl:=h.rpl.stays hs id
 rha:=h.rha.stays hs id
 rma:=h.rma.stays hs id
 rst:=h.rst.stays hs id
 rta:=h.rta.stays hs id
 rwo:=h.rwo.stays hs id
 rre:=h.rre.stays hs id
 rls:=h.rls.stays hs id
 rlw:=h.rlw.stays hs id
 sp:=fun i p hp=>⟨(h.sp i p hp).1.stays hs id,(h.sp i p hp).2.stays hs id⟩
 si:=fun i p hp=>⟨⟨(h.si i p hp).1.1.stays hs id,(h.si i p hp).1.2.stays hs id⟩,(h.si i p hp).2.1.stays hs id,(h.si i p hp).2.2.stays hs id⟩
 so:=fun i p hp=>⟨⟨(h.so i p hp).1.1.stays hs id,(h.so i p hp).1.2.stays hs id⟩,(h.so i p hp).2.1.stays hs id,(h.so i p hp).2.2.stays hs id⟩
 ha:=fun i p hp=>⟨(h.ha i p hp).1.stays hs (h.ha i p hp).2.1 id,(hs.tag _ (h.ha i p hp).1.lt).trans (h.ha i p hp).2.1,Nat.le_trans (h.ha i p hp).2.2 hM⟩
 ma:=fun i p hp=>⟨(h.ma i p hp).1.stays hs (h.ma i p hp).2.1 id,(hs.tag _ (h.ma i p hp).1.lt).trans (h.ma i p hp).2.1,Nat.le_trans (h.ma i p hp).2.2.1 hM,Nat.le_trans (h.ma i p hp).2.2.2 (by omega)⟩
 st:=fun i p hp=>⟨(h.st i p hp).1.stays hs id,(h.st i p hp).2.1,(h.st i p hp).2.2.1,(h.st i p hp).2.2.2.1,Nat.le_trans (h.st i p hp).2.2.2.2 hM⟩
 ta:=fun i p hp=>⟨(h.ta i p hp).1.stays hs id,(h.ta i p hp).2.1,Nat.le_trans (h.ta i p hp).2.2 hM⟩
 ls:=fun i p hp=>⟨(h.ls i p hp).1.stays hs id,(h.ls i p hp).2.stays hs id⟩
 pl:=fun i p hp=>⟨(h.pl i p hp).1.stays hs id,(h.pl i p hp).2.1.stays hs id,(h.pl i p hp).2.2.1,(h.pl i p hp).2.2.2.1,Nat.le_trans (h.pl i p hp).2.2.2.2 (by omega)⟩
 npl:=Nat.le_trans h.npl hM
 rwr:=h.rwr.stays hs id
 rrd:=h.rrd.stays hs id
 wr:=fun i p hp=>⟨(h.wr i p hp).1.stays hs id,(h.wr i p hp).2.1.stays hs id,(h.wr i p hp).2.2.1.more hM,(h.wr i p hp).2.2.2⟩
 rd:=fun i p hp=>⟨(h.rd i p hp).1.stays hs id,(h.rd i p hp).2.1.stays hs id,(h.rd i p hp).2.2.1.more hM,(h.rd i p hp).2.2.2⟩
 spK:=fun i p hp=>(h.spK i p hp).more hM
 siK:=fun i p hp=>(h.siK i p hp).more hM
 soK:=fun i p hp=>(h.soK i p hp).more hM
 nwr:=Nat.le_trans h.nwr hM
 nrd:=Nat.le_trans h.nrd hM
 old:=fun g hg=>(hs.tag g (Nat.lt_of_lt_of_le hg h.bsz)).trans (h.old g hg)
 two:=h.two
 bsz:=Nat.le_trans h.bsz hs.size
 kt:=h.kt.below (hs.below h.bsz h.old id) h.two
 ht:=h.ht.below (hs.below h.bsz h.old id) h.two
 bound:=by have:=h.bound;omega
 sizes:=by
  obtain ⟨z1,z2,z3,z4,z5,z6⟩:=h.sizes
  exact ⟨fun x hx=>by have:=z1 x hx;omega,fun x hx=>by have:=z2 x hx;omega,fun p hp=>⟨by have:=(z3 p hp).1;omega,fun x hx=>by have:=(z3 p hp).2 x hx;omega⟩,by omega,by omega,by omega⟩
theorem Inv.below {T:Tags} {base B M:Nat} {σ:Sig} {w w':World} (h:Inv T base B M σ w) (hb:Below w.heap.size w w'):Inv (fresh T w (9,9)) base B M σ w':=h.same (Nat.le_refl _) h.bound.1 (Stays.of_below (9,9) hb)
theorem Inv.drewN {T:Tags} {base B M:Nat} {σ:Sig} {w:World} (h:Inv T base B M σ w) (n:Nat):Inv T base B M σ (w.drewN n):=h.same (Nat.le_refl _) h.bound.1 ((Stays.refl T w _).drewN n)
theorem Inv.more {T:Tags} {base B M M':Nat} {σ:Sig} {w:World} (h:Inv T base B M σ w) (hM:M≤M') (hM2:M'≤1073741824):Inv T base B M' σ w:=h.same hM hM2 (Stays.refl T w _)
theorem sizes_more {M M':Nat} {σ:Sig} (h:M≤M') (z:(∀ x ∈ σ.wo,x.size≤512*M+65536)∧(∀ x ∈ σ.re,x.size≤512*M+65536)∧(∀ p ∈ σ.ls,p.l.length≤M∧∀ x ∈ p.l,x.size≤512*M+65536)∧σ.file.size≤512*M+65536∧σ.key.size≤512*M+65536∧σ.nonce.size≤512*M+65536):
  (∀ x ∈ σ.wo,x.size≤512*M'+65536)∧(∀ x ∈ σ.re,x.size≤512*M'+65536)∧(∀ p ∈ σ.ls,p.l.length≤M'∧∀ x ∈ p.l,x.size≤512*M'+65536)∧σ.file.size≤512*M'+65536∧σ.key.size≤512*M'+65536∧σ.nonce.size≤512*M'+65536:=by
 obtain ⟨z1,z2,z3,z4,z5,z6⟩:=z
 exact ⟨fun x hx=>by have:=z1 x hx;omega,fun x hx=>by have:=z2 x hx;omega,fun p hp=>⟨by have:=(z3 p hp).1;omega,fun x hx=>by have:=(z3 p hp).2 x hx;omega⟩,by omega,by omega,by omega⟩
theorem RowT.cells {T:Tags} {w:World} {c:Nat × Nat} {e:TypeId} {v:Value} {n:Nat} {xs:List Value} (h:RowT T w c e 1 v n xs) (hn:0<n):∃ g cap,v = .slice (some ⟨g,0,none⟩) n cap∧n≤cap∧cap≤maxLen∧T g=c∧g<w.heap.size∧∀ i u,xs[i]? = some u→w.cell? ⟨g,i,none⟩=some u:=by
 obtain ⟨g,cap,cur,rfl,_,hB,hc,hm,_,htk⟩:=h.1.open hn
 exact ⟨g,cap,rfl,hc,hm,h.2 g rfl,hB.lt,fun i u hu=>hB.cell (take_at htk hu)⟩
theorem RowT.zero {T:Tags} {w:World} {c:Nat × Nat} {e:TypeId} {size:Nat} {v:Value} {n:Nat} {xs:List Value} (h:RowT T w c e size v n xs):∃ ao cap,v = .slice ao n cap∧cap≤maxLen:=by
 rcases h.1.2 with ⟨rfl,rfl⟩ | ⟨g,cap,cur,rfl,_,_,_,hm,_⟩
 ·exact ⟨none,0,rfl,by decide⟩
 ·exact ⟨_,cap,rfl,hm⟩
set_option maxHeartbeats 800000 in
theorem looks_any {T:Tags} {base B M:Nat} {σ:Sig} {w:World} (h:Inv T base B M σ w):
  Calls Tryz.prog 13 #[.pointer (some ⟨B,0,none⟩)] w fun e w'=>e = .returned (.bool true)∧∃ m,w'=w.drewN m:=by
 obtain ⟨als,cls,hvls,hcls⟩:=h.rls.zero
 obtain ⟨alw,clw,hvlw,hclw⟩:=h.rlw.zero
 have c15:=h.hw.1.cell (i:=15) rfl
 have c16:=h.hw.1.cell (i:=16) rfl
 have hlen:=h.bound
 generalize hn:σ.ls.length=n at *
 have hnb:n≤1073741824:=by omega
 rw[hvls] at c15
 rw[hvlw] at c16
 have H:=hide h
 have HN:=hide hn
 have HLS:=hide hvls
 have HLW:=hide hvlw
 clear h hn hvls hvlw hlen
 unfold maxLen at hcls hclw
 go_enter Tryz.func13,Tryz.ntmps13
 go_wp2
 go_loopw [3] (fun i wr=>∃ k m:Nat,k≤n∧i = .int .i64 k∧wr=w.drewN m) (fun i _=>n-(intOf i).toNat)
 case atStart=>exact ⟨0,0,by omega,rfl,rfl⟩
 case round=>
  obtain ⟨k,m,hk,rfl,rfl⟩:=hrel
  by_cases hlt:k<n
  ·obtain ⟨p,hp⟩:∃ p,σ.ls[k]? = some p:=⟨_,List.getElem?_eq_getElem (by rw[HN.out];exact hlt)⟩
   have hi:=H.out
   obtain ⟨g1,cp1,e1,_,_,_,_,hc1⟩:=hi.rls.cells (by rw[HN.out];omega)
   obtain ⟨g2,cp2,e2,_,_,_,_,hc2⟩:=hi.rlw.cells (by rw[HN.out];omega)
   have d1:=hc1 k p.v (by simp[hp])
   have d2:=hc2 k p.v2 (by simp[hp])
   have s1:=(hi.ls k p hp).1.strs
   have s2:=(hi.ls k p hp).2.strs
   have hpl:=(hi.sizes.2.2.1 p (List.mem_of_getElem? hp)).1
   have hMb:=hi.bound.1
   rw[HLS.out,HN.out] at e1
   rw[HLW.out,HN.out] at e2
   injection e1 with e1 _ _
   injection e2 with e2 _ _
   subst e1 e2
   clear hi hc1 hc2 hp
   generalize p.v=pv at *
   generalize p.v2=pv2 at *
   generalize p.l=pl at *
   refine wp_letterW (fun w'=>(∃ m,w'=w.drewN m)∧w'.cell? ⟨B,15,none⟩=some (.slice (some ⟨g1,0,none⟩) n cls)∧w'.cell? ⟨B,16,none⟩=some (.slice (some ⟨g2,0,none⟩) n clw)∧w'.cell? ⟨g1,k,none⟩=some pv∧w'.cell? ⟨g2,k,none⟩=some pv2∧Strs w' pv pl∧Strs w' pv2 pl) ⟨⟨m,rfl⟩,by simpa using c15,by simpa using c16,by simpa using d1,by simpa using d2,s1,s2⟩ ?_
   clear c15 c16 d1 d2 s1 s2
   rintro wq ⟨hm,c15,c16,d1,d2,s1,s2⟩
   have S1:=hide s1
   have S2:=hide s2
   clear s1 s2
   go_wp2
   go_quiet ((go_at_call 36;exact Calls.quiet_of (sameTexts_any _ _ pl _ S1.out S2.out (by omega))))
   go_wp2
   go_roundw
   case rel=>
    obtain ⟨m',rfl⟩:=hm
    exact ⟨k+1,m'+nq,by omega,by go_num,by simp⟩
   case measure=>simp[intOf];omega
  ·go_wp2
   go_ret
   exact ⟨rfl,m,rfl⟩
def opV (o:OpR):Value:=.agg #[.int .i64 o.kind,.int .i64 o.a,.int .i64 o.b,.int .i64 o.c,.string o.s,.string o.t]
set_option maxHeartbeats 1600000 in
theorem long_any {T:Tags} {base B M:Nat} {σ:Sig} {w:World} (h:Inv T base B M σ w) (o:OpR) (ho:o.ok) (ht:o.t.size≤512*M+65536):
  Calls Tryz.prog 24 #[.pointer (some ⟨B,0,none⟩),opV o] w fun e w'=>∃ t:ByteArray,e = .returned (.string t)∧t.size≤512*M+65536∧Below w.heap.size w w':=by
 obtain ⟨ao,cap,hv,hcap⟩:=h.rwo.zero
 have hB:=h.hw.1.lt
 have c10:=(h.hw.1.alloc (.cells #[.int .i64 o.kind,.int .i64 o.a,.int .i64 o.b,.int .i64 o.c,.string o.s,.string o.t] 28)).cell (i:=10) rfl
 have c10':=h.hw.1.cell (i:=10) rfl
 rw[hv] at c10 c10'
 have hoc:=ho.c
 have hMb:=h.bound.1
 have hwl:=h.bound.2.2.2.2.2.1
 unfold opV
 unfold maxLen at hcap
 by_cases hc0:o.c=0
 ·have z:(o.c != 0)=false:=by rw[hc0];rfl
  have H:=hide h
  clear h hc0
  go_enter Tryz.func24,Tryz.ntmps24
  go_wp2
  go_ret
  exact ⟨_,rfl,ht,(Below.refl _ _).alloc (Nat.le_refl _) _⟩
 ·have z:(o.c != 0)=true:=by rw[bne_iff_ne];exact hc0
  by_cases hw0:σ.wo.length=0
  ·rw[hw0] at c10 c10'
   have H:=hide h
   clear h hc0 hw0 hwl hv
   go_enter Tryz.func24,Tryz.ntmps24
   go_wp2
   go_ret
   exact ⟨_,rfl,ht,(Below.refl _ _).alloc (Nat.le_refl _) _⟩
  ·obtain ⟨g,cap',e1,_,_,_,hgl,hcell⟩:=h.rwo.cells (by omega)
   rw[hv] at e1
   injection e1 with e1 _ _
   have hpk:=pickN_lt o.c σ.wo.length (by omega)
   obtain ⟨x,hx⟩:∃ x,σ.wo[pickN o.c σ.wo.length]? = some x:=⟨_,List.getElem?_eq_getElem hpk⟩
   have hxs:=h.sizes.1 x (List.mem_of_getElem? hx)
   have d1:=hcell (pickN o.c σ.wo.length) (.string x) (by simp[strV,hx])
   subst e1
   have hn0:0<σ.wo.length:=by omega
   generalize σ.wo.length=n at *
   have H:=hide h
   clear h hc0 hw0 hv hcell hx
   generalize hpe:pickN o.c n=pk at *
   have HPE:=hide hpe
   clear hpe
   have jn:(0:Int)<(n:Int):=by omega
   go_enter Tryz.func24,Tryz.ntmps24
   go_wp2
   refine wp_letterW (fun w'=>Below w.heap.size w w'∧w'.cell? ⟨B,10,none⟩=some (.slice (some ⟨g,0,none⟩) n cap)∧w'.cell? ⟨w.heap.size,3,none⟩=some (.int .i64 o.c)∧w'.cell? ⟨g,pk,none⟩=some (.string x)) ⟨(Below.refl _ _).alloc (Nat.le_refl _) _,c10,(World.cell?_alloc_at _ _ _ _ rfl).trans rfl,World.cell?_alloc_later w _ _ d1⟩ ?_
   clear c10 c10' d1
   rintro wq ⟨hbq,c10,c3,d1⟩
   have hpick:=fun w=>pick_any o.c n w hoc.1 hoc.2 hn0 (by omega)
   rw[HPE.out] at hpick
   have HP:=hide hpick
   clear hpick
   go_quiet ((go_at_call 48;exact Calls.quiet_of_same (HP.out _)))
   go_wp2
   go_ret
   exact ⟨x,rfl,hxs,below_drewN hbq _⟩
theorem wpList_append_two (e t:TypeId) (z:Value) (bytes:Nat) (hinfo:(Tryz.prog.info? e).map (fun i=>(i.zero,i.size,i.bytes))=some (some z,2,bytes)) (hu:Tryz.prog.underlying t=some (.slice e)) (hz:z.cells.size=2) (hby:bytes≤64)
  {ops:Array Oper} {rest:List Oper} {o:Oper} {a:Act} {w:World} {Q:Exit→Act→World→Prop} (hgd:o.guard=none) (s x:Operand)
  (ho:o.op = .call { callee:=.builtin .append,args:=#[s,x],argTypes:=#[t,t] })
  (v:Value) (n:Nat) (xs:List Value) (hs:a.eval s=v) (hown:Row w 0 e 2 v n xs)
  (g:Nat) (y1 y2:Value) (hx:a.eval x = .slice (some ⟨g,0,none⟩) 1 1) (h1:y1.oneCell'=true) (h2:y2.oneCell'=true) (hn1:w.cell? ⟨g,0,none⟩=some y1) (hn2:w.cell? ⟨g,1,none⟩=some y2) (hn:n≤1099511627)
  (h:∀ v' w',Row w' 0 e 2 v' (n+1) (xs++[y1,y2])→w.grownBy w' v.ownBlock→(v'.ownBlock=v.ownBlock∨∃ g,v'.ownBlock=some g∧w.heap.size≤g)→wpList Tryz.prog ops Q rest (a.put o.dst v') w'):wpList Tryz.prog ops Q (o::rest) a w:=by
 obtain ⟨i0,hi,hz0,hz1,hz2⟩:=info_parts hinfo
 refine wpList_plain hgd fun _ hK=>?_
 refine wp_append_row s x t ho i0 z bytes hu hi hz0 hz1 hz2 hz (by decide) v n xs hs hown ⟨g,0,none⟩ 1 1 [y1,y2] hx rfl ?_ ?_ ?_ ?_ (Nat.zero_le _) ?_
 ·intro j u hj
  match j,hj with
  | 0,hj=>simp at hj;subst hj;rw[Addr.add_mid];exact hn1
  | 1,hj=>simp at hj;subst hj;rw[Addr.add_mid];exact hn2
 ·intro u hu'
  simp at hu'
  rcases hu' with rfl | rfl
  ·exact h1
  ·exact h2
 ·unfold maxLen;omega
 ·have:(n+1)*bytes≤(n+1)*64:=Nat.mul_le_mul_left _ hby
  omega
 ·intro v' w' h3 h4 h5
  exact hK _ _ (h v' w' h3 h4 h5)
abbrev Done (base B M':Nat) (w:World) (w':World):Prop:=∃ T' σ',Inv T' base B M' σ' w'∧Below base w w'
def Step (f:Nat) (base B:Nat) (o:OpR):Prop:=∀ (T:Tags) (M M':Nat) (σ:Sig) (w:World),Inv T base B M σ w→M+o.s.size+o.t.size<M'→M'≤1073741824 →
  Calls Tryz.prog f #[.pointer (some ⟨B,0,none⟩),opV o] w fun e w'=>e = .returned (.bool true)∧Done base B M' w w'
def sig0:Sig:=⟨nilV,nilV,nilV,nilV,nilV,nilV,nilV,nilV,nilV,nilV,nilV,[],[],[],[],[],[],[],[],[],[],⟨#[]⟩,⟨#[]⟩,⟨#[]⟩,⟨0,by decide,by decide⟩,⟨0,by decide,by decide⟩,⟨0,by decide,by decide⟩,nilV,[],nilV,[],nilV,[]⟩
theorem Inv.start {w:World} (hk:KTab w) (hh:HTab w) (h2:2≤w.heap.size):
  Inv (fun g=>if g<w.heap.size then (0,0) else (1,0)) w.heap.size w.heap.size 0 sig0 (w.alloc (.cells sig0.cells.toArray 44)) where
 hw:=⟨Blk.new rfl rfl,if_neg (Nat.lt_irrefl _)⟩
 rsp:=RowT.nil _ _ _ _ _
 rsi:=RowT.nil _ _ _ _ _
 rso:=RowT.nil _ _ _ _ _
 rpl:=RowT.nil _ _ _ _ _
 rha:=RowT.nil _ _ _ _ _
 rma:=RowT.nil _ _ _ _ _
 rst:=RowT.nil _ _ _ _ _
 rta:=RowT.nil _ _ _ _ _
 rwo:=RowT.nil _ _ _ _ _
 rre:=RowT.nil _ _ _ _ _
 rls:=RowT.nil _ _ _ _ _
 rlw:=RowT.nil _ _ _ _ _
 sp:=fun i p hp=>by simp[sig0] at hp
 si:=fun i p hp=>by simp[sig0] at hp
 so:=fun i p hp=>by simp[sig0] at hp
 ha:=fun i p hp=>by simp[sig0] at hp
 ma:=fun i p hp=>by simp[sig0] at hp
 st:=fun i p hp=>by simp[sig0] at hp
 ta:=fun i p hp=>by simp[sig0] at hp
 ls:=fun i p hp=>by simp[sig0] at hp
 pl:=fun i p hp=>by simp[sig0] at hp
 npl:=Nat.zero_le _
 rwr:=RowT.nil _ _ _ _ _
 rrd:=RowT.nil _ _ _ _ _
 wr:=fun i p hp=>by simp[sig0] at hp
 rd:=fun i p hp=>by simp[sig0] at hp
 spK:=fun i p hp=>by simp[sig0] at hp
 siK:=fun i p hp=>by simp[sig0] at hp
 soK:=fun i p hp=>by simp[sig0] at hp
 nwr:=Nat.zero_le _
 nrd:=Nat.zero_le _
 old:=fun g hg=>if_pos hg
 two:=h2
 bsz:=by simp
 kt:=hk.below ((Below.refl _ _).alloc (Nat.le_refl _) _) h2
 ht:=hh.below ((Below.refl _ _).alloc (Nat.le_refl _) _) h2
 bound:=by simp[sig0]
 sizes:=by
  refine ⟨fun x hx=>?_,fun x hx=>?_,fun p hp=>?_,?_,?_,?_⟩
  ·simp[sig0] at hx
  ·simp[sig0] at hx
  ·simp[sig0] at hp
  ·exact Nat.zero_le _
  ·exact Nat.zero_le _
  ·exact Nat.zero_le _
set_option maxRecDepth 100000 in
set_option maxHeartbeats 800000 in
theorem upTo_any (v:Value) (l:List OpR) (w:World) (hv:Script w v l) (hk:KTab w) (hh:HTab w) (h2:2≤w.heap.size) (hsm:l.length+total l≤1073741824)
  (hp:∀ o ∈ l,50≤o.kind→Step 10 w.heap.size w.heap.size o)
  (he:∀ o ∈ l,30≤o.kind→o.kind<50→Step 11 w.heap.size w.heap.size o)
  (hd:∀ o ∈ l,o.kind<30→Step 12 w.heap.size w.heap.size o):
  Calls Tryz.prog 9 #[v] w fun e w'=>e = .returned (.int .i64 (-1))∧Below w.heap.size w w':=by
 obtain ⟨ao,ca,rfl,hca⟩:∃ ao c,v = .slice ao l.length c∧∀ i p,l[i]? = some p→∃ g o,ao=some ⟨g,o,none⟩∧∀ j u,p.cells[j]? = some u→w.cell? ⟨g,o+i*6+j,none⟩=some u:=by
  rcases hv with ⟨rfl,ao,c,rfl⟩ | ⟨g,o,c,rfl,h⟩
  ·exact ⟨ao,c,rfl,fun i x h=>by simp at h⟩
  ·exact ⟨_,c,rfl,fun i x hx=>⟨g,o,rfl,h i x hx⟩⟩
 have HI:=hide (Inv.start hk hh h2)
 have HCA:=hide hca
 have HP:=hide hp
 have HE:=hide he
 have HD:=hide hd
 clear hv hk hh h2 hca hp he hd
 have htk:=total_take l
 have htl:=total_le l
 generalize hn:l.length=n at *
 have HN:=hide hn
 have HTK:=hide htk
 have HTL:=hide htl
 clear hn htk htl
 go_enter Tryz.func9,Tryz.ntmps9
 go_wp2
 go_loopw [4] (fun i wr=>∃ k:Nat,k≤n∧i = .int .i64 k∧∃ T σ,Inv T w.heap.size w.heap.size (k+total (l.take k)) σ wr∧Below w.heap.size w wr) (fun i _=>n-(intOf i).toNat)
 case atStart=>exact ⟨0,by omega,rfl,_,_,HI.out,(Below.refl _ _).alloc (Nat.le_refl _) _⟩
 case round=>
  obtain ⟨k,hk,rfl,T,σ,hI,hB⟩:=hrel
  by_cases hlt:k<n
  ·have hkl:k<l.length:=by rw[HN.out];exact hlt
   obtain ⟨p,hgk⟩:∃ p,l[k]? = some p:=⟨_,List.getElem?_eq_getElem hkl⟩
   obtain ⟨g,o,rfl,hc⟩:=HCA.out k _ hgk
   have ht1:=HTK.out k p hgk
   have ht2:=HTL.out (k+1)
   have hmem:=List.mem_of_getElem? hgk
   have HT1:=hide ht1
   have hq:k+total (l.take k)+p.s.size+p.t.size<k+1+total (l.take (k+1)):=by omega
   have hq2:k+1+total (l.take (k+1))≤1073741824:=by omega
   generalize hmd:k+1+total (l.take (k+1))=M' at *
   have HMD:=hide hmd
   clear hmd
   generalize k+total (l.take k)=M at *
   have HMEM:=hide hmem
   have cl:∀ j u,p.cells[j]? = some u→wr.cell? ⟨g,o+k*6+j,none⟩=some u:=fun j u hu=>by
    have h1:=hc j u hu
    rw[←h1]
    exact hB.cell (World.block_lt_of_cell? w _ h1)
   have c0:wr.cell? ⟨g,o+k*6,none⟩=some (.int .i64 p.kind):=cl 0 _ rfl
   have c1:=cl 1 _ rfl
   have c2:=cl 2 _ rfl
   have c3:=cl 3 _ rfl
   have c4:=cl 4 _ rfl
   have c5:=cl 5 _ rfl
   have HI1:=hide hI
   have HB1:=hide hB
   clear ht1 ht2 hmem hc hgk HTK HTL HCA hI hB cl
   by_cases h50:50≤p.kind
   ·have HST:=hide (HP.out p HMEM.out h50)
    go_wp2_with fail
    refine (HST.out _ _ M' _ _ (HI1.out.below ((Below.refl _ _).alloc (Nat.le_refl _) _)) hq hq2).mono ?_
    rintro e w2 ⟨rfl,T2,σ2,hI2,hB2⟩
    have HI2:=hide hI2
    have HB2:=hide ((HB1.out.alloc HI1.out.bsz _).trans hB2)
    clear hI2 hB2 HI1 HB1 c0 c1 c2 c3 c4 c5
    go_wp2_with fail
    refine (looks_any HI2.out).mono ?_
    rintro e w3 ⟨rfl,m3,rfl⟩
    go_wp2
    go_roundw
    case rel=>
     refine ⟨k+1,by omega,by go_num,T2,σ2,?_,below_drewN HB2.out _⟩
     rw[HMD.out]
     exact HI2.out.drewN m3
    case measure=>simp[intOf];omega
   ·by_cases h30:30≤p.kind
    ·have HST:=hide (HE.out p HMEM.out h30 (by omega))
     go_wp2_with fail
     refine (HST.out _ _ M' _ _ (HI1.out.below ((Below.refl _ _).alloc (Nat.le_refl _) _)) hq hq2).mono ?_
     rintro e w2 ⟨rfl,T2,σ2,hI2,hB2⟩
     have HI2:=hide hI2
     have HB2:=hide ((HB1.out.alloc HI1.out.bsz _).trans hB2)
     clear hI2 hB2 HI1 HB1 c0 c1 c2 c3 c4 c5
     go_wp2_with fail
     refine (looks_any HI2.out).mono ?_
     rintro e w3 ⟨rfl,m3,rfl⟩
     go_wp2
     go_roundw
     case rel=>
      refine ⟨k+1,by omega,by go_num,T2,σ2,?_,below_drewN HB2.out _⟩
      rw[HMD.out]
      exact HI2.out.drewN m3
     case measure=>simp[intOf];omega
    ·have HST:=hide (HD.out p HMEM.out (by omega))
     go_wp2_with fail
     refine (HST.out _ _ M' _ _ (HI1.out.below ((Below.refl _ _).alloc (Nat.le_refl _) _)) hq hq2).mono ?_
     rintro e w2 ⟨rfl,T2,σ2,hI2,hB2⟩
     have HI2:=hide hI2
     have HB2:=hide ((HB1.out.alloc HI1.out.bsz _).trans hB2)
     clear hI2 hB2 HI1 HB1 c0 c1 c2 c3 c4 c5
     go_wp2_with fail
     refine (looks_any HI2.out).mono ?_
     rintro e w3 ⟨rfl,m3,rfl⟩
     go_wp2
     go_roundw
     case rel=>
      refine ⟨k+1,by omega,by go_num,T2,σ2,?_,below_drewN HB2.out _⟩
      rw[HMD.out]
      exact HI2.out.drewN m3
     case measure=>simp[intOf];omega
  ·go_wp2
   go_ret
   exact ⟨rfl,hB⟩
end Go.Proofs.YtmjekklgefdolaaGreatDoor
