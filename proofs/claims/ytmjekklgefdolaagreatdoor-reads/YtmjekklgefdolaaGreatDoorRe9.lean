import Derived.Laws.ResultCell
import Derived.Laws.Rows
import Derived.Test.YtmjekklgefdolaaGreatDoorRe8
namespace Go.Proofs.YtmjekklgefdolaaGreatDoor
open Go.RowKit
namespace B64
def bitsM (x:Nat):Nat→List Nat
 | 0=>[]
 | k+1=>bitsM x k++[x/(32/2 ^ k)%2]
def bitsT (t:List UInt8):List Nat:=t.flatMap fun c=>bitsM (place c) 6
def decN (P:List Nat) (k:Nat):List UInt8:=(List.range k).map fun j=>UInt8.ofNat (val P (8*j) 8)
def dec (t:List UInt8):List UInt8:=decN (bitsT t) ((bitsT t).length/8)
def decAns (t:List UInt8):List UInt8 × Int:=if enc (dec t)=t then (dec t,0) else ([],5)
theorem bitsM_len (x:Nat):∀ k,(bitsM x k).length=k
 | 0=>rfl
 | k+1=>by rw[bitsM,List.length_append,bitsM_len x k];rfl
theorem bitsT_len:∀ l:List UInt8,(bitsT l).length=6*l.length
 | []=>rfl
 | b::r=>by
  have h:=bitsT_len r
  unfold bitsT at h ⊢
  rw[List.flatMap_cons,List.length_append,h,bitsM_len,List.length_cons]
  omega
theorem bitsT_next (l:List UInt8) (i:Nat) (h:i<l.length):bitsT (l.take (i+1))=bitsT (l.take i)++bitsM (place l[i]) 6:=by
 unfold bitsT
 rw[List.take_succ_eq_append_getElem h,List.flatMap_append]
 simp
theorem bitsM_bit (x:Nat):∀ (k:Nat),∀ b ∈ bitsM x k,b<2
 | 0,b,h=>by cases h
 | k+1,b,h=>by
  rw[bitsM] at h
  rcases List.mem_append.1 h with h | h
  ·exact bitsM_bit x k b h
  ·rw[List.mem_singleton.1 h];exact Nat.mod_lt _ (by decide)
theorem bitsT_bit (l:List UInt8):∀ b ∈ bitsT l,b<2:=by
 intro b h
 obtain ⟨x,_,hx⟩:=List.mem_flatMap.1 h
 exact bitsM_bit _ _ b hx
theorem decN_succ (P:List Nat) (k:Nat):decN P (k+1)=decN P k++[UInt8.ofNat (val P (8*k) 8)]:=by simp[decN,List.range_succ]
def dm (k:Nat):Nat:=32/2 ^ k
theorem dm_next (k:Nat):dm k/2=dm (k+1):=by
 unfold dm
 rw[Nat.div_div_eq_div_mul,Nat.pow_succ]
theorem dm_pos (k:Nat) (h:k<6):0<dm k:=
 match k,h with
 | 0,_=>by decide
 | 1,_=>by decide
 | 2,_=>by decide
 | 3,_=>by decide
 | 4,_=>by decide
 | 5,_=>by decide
 | n+6,h=>absurd h (by omega)
theorem dm_le (k:Nat):dm k≤32:=Nat.div_le_self _ _
theorem dm_6:dm 6=0:=by decide
theorem enc_letters (l:List UInt8):∀ c ∈ enc l,place c<64:=by
 intro c h
 obtain ⟨j,_,rfl⟩:=List.mem_map.1 h
 have hv:=val_lt (bits6_bit l) (6*j) 6
 rw[place_letter _ hv]
 exact hv
theorem decAns_bad (t:List UInt8) (c:UInt8) (hc:c ∈ t) (h:¬ place c<64):decAns t=([],5):=by
 unfold decAns
 rw[if_neg]
 intro e
 rw[←e] at hc
 exact h (enc_letters _ c hc)
end B64
set_option maxRecDepth 100000 in
set_option maxHeartbeats 3200000 in
theorem headDecode_any (s:ByteArray) (w:World) (hs:s.size≤1099511627):
  Calls Tryz.prog 122 #[.string s] w fun e w'=>e = .returned (.tuple #[.string ⟨(B64.decAns s.data.toList).1.toArray⟩,.int .i64 (B64.decAns s.data.toList).2])∧Below w.heap.size w w':=by
 have hlen:s.data.toList.length=s.size:=ba_len s
 have HBAD:=hide (fun c hc h=>B64.decAns_bad s.data.toList c hc h)
 have hda:B64.decAns s.data.toList=if B64.enc (B64.dec s.data.toList)=s.data.toList then (B64.dec s.data.toList,0) else ([],5):=rfl
 have hde:B64.dec s.data.toList=B64.decN (B64.bitsT s.data.toList) ((B64.bitsT s.data.toList).length/8):=rfl
 have hbt:=B64.bitsT_bit s.data.toList
 have hbl:=B64.bitsT_len s.data.toList
 rw[hlen] at hbl
 obtain ⟨ans,hans⟩:∃ a,B64.decAns s.data.toList=a:=⟨_,rfl⟩
 rw[hans] at hda HBAD
 rw[hans]
 have HDA:=hide hda
 have HDE:=hide hde
 have HBT:=hide hbt
 have HBL:=hide hbl
 clear hda hde hbt hbl hans
 go_enter Tryz.func122,Tryz.ntmps122
 go_wp2
 go_loopw [4,5] (fun v i wr=>∃ j:Nat,j≤s.size∧i = .int .i64 (j:Nat)∧Row wr w.heap.size 3 1 v (6*j) (i64V (B64.bitsT (s.data.toList.take j)))∧Below w.heap.size w wr) (fun _ i _=>s.size-(intOf i).toNat)
 case atStart=>exact ⟨0,Nat.zero_le _,rfl,Row.nil _ _ _ _,Below.refl _ _⟩
 case round=>
  obtain ⟨j,hj,rfl,hr,hbe⟩:=hrel
  by_cases hlt:j<s.size
  ·have jj:(j:Int)<(s.size:Int):=by omega
   have hel:s.data.toList[j]'(by omega)=s[j]'hlt:=by rw[byte_at s j hlt,List.getD_eq_getElem?_getD,List.getElem?_eq_getElem (by omega)];rfl
   have hnx:=B64.bitsT_next s.data.toList j (by omega)
   rw[hel] at hnx
   have hmem:(s[j]'hlt) ∈ s.data.toList:=by rw[←hel];exact List.getElem_mem _
   have HPL:=hide (fun w=>headPlace_any (s[j]'hlt) w)
   have hb2:=HBAD.out (s[j]'hlt) hmem
   obtain ⟨V,hV⟩:∃ V:Nat,B64.place (s[j]'hlt)=V:=⟨_,rfl⟩
   rw[hV] at hnx HPL hb2
   have HNX:=hide hnx
   have HB2:=hide hb2
   have hsz:=hbe.size
   have HBE:=hide hbe
   have HR:=hide hr
   generalize B64.bitsT (s.data.toList.take j)=pre at *
   obtain ⟨PV,hPV⟩:∃ PV:Int,(if V<64 then (V:Int) else -1)=PV:=⟨_,rfl⟩
   rw[hPV] at HPL
   have HPV:=hide hPV
   clear hel hnx hmem hb2 hV hr hbe hPV
   go_wp2_with fail
   refine (HPL.out _).mono ?_
   rintro e w2 ⟨rfl,m,rfl⟩
   clear HPL
   by_cases hV64:V<64
   ·obtain rfl:PV=(V:Int):=by rw[←HPV.out,if_pos hV64]
    have jV:¬ ((V:Int)<0):=by omega
    clear HPV HB2
    go_wp2
    go_loopw [4,7] (fun v d wr2=>∃ k:Nat,k≤6∧d = .int .i64 (B64.dm k:Nat)∧Row wr2 w.heap.size 3 1 v (6*j+k) (i64V (pre++B64.bitsM V k))∧Below w.heap.size w wr2) (fun _ d _=>(intOf d).toNat)
    case atStart=>exact ⟨0,by omega,rfl,by simpa [B64.bitsM] using HR.out.drewN m,below_drewN HBE.out m⟩
    case round=>
     clear HR HBE hsz
     obtain ⟨k,hk,rfl,hr,hbe⟩:=hrel
     have hsz:=hbe.size
     by_cases hk6:k<6
     ·obtain ⟨D,hD⟩:∃ D:Nat,D=B64.dm k:=⟨_,rfl⟩
      have hD0:0<D:=by rw[hD];exact B64.dm_pos k hk6
      have hD1:D≤32:=by rw[hD];exact B64.dm_le k
      have hDn:D/2=B64.dm (k+1):=by rw[hD];exact B64.dm_next k
      have hnw:pre++B64.bitsM V k++[V/D%2]=pre++B64.bitsM V (k+1):=by rw[hD,List.append_assoc];rfl
      rw[←hD]
      have jD:(0:Int)<(D:Int):=by omega
      have zD:((D:Int)==0)=false:=beq_eq_false_iff_ne.2 (by omega)
      have hq9:V/D≤64:=Nat.le_trans (Nat.div_le_self _ _) (Nat.le_of_lt hV64)
      have a2:(V:Int).tdiv (D:Int)=((V/D:Nat):Int):=(Int.tdiv_eq_ediv_of_nonneg (Int.natCast_nonneg _)).trans (Int.natCast_ediv V D).symm
      obtain ⟨q,hq⟩:∃ q:Nat,V/D=q:=⟨_,rfl⟩
      rw[hq] at hq9 a2 hnw
      obtain ⟨r,hrr⟩:∃ r:Nat,q%2=r:=⟨_,rfl⟩
      have a4:(q:Int).tmod 2=(r:Int):=by rw[←hrr];exact (Int.tmod_eq_emod_of_nonneg (Int.natCast_nonneg _)).trans (Int.natCast_emod q 2).symm
      rw[hrr] at hnw
      obtain ⟨D2,hD2⟩:∃ D2:Nat,D/2=D2:=⟨_,rfl⟩
      have a5:(D:Int).tdiv 2=(D2:Int):=by rw[←hD2];exact (Int.tdiv_eq_ediv_of_nonneg (Int.natCast_nonneg _)).trans (Int.natCast_ediv D 2).symm
      rw[hD2] at hDn
      have hD2l:D2<D:=by omega
      clear hq hrr hD2
      have a3:wrap64 (q:Int)=(q:Int):=IntWalk.wrap64_in _ (by omega)
      have a6:wrap64 (D2:Int)=(D2:Int):=IntWalk.wrap64_in _ (by omega)
      have HR:=hide hr
      have HBE:=hide hbe
      have HDN:=hide hDn
      have HNW:=hide hnw
      have HDL:=hide hD2l
      clear hr hbe hD hDn hnw hq9 hD2l
      go_wp2_with (at_builtin;refine wpList_append_intR rfl (.tmp 30) (.tmp 35) rfl w.heap.size _ (6*j+k) _ rfl (HR.out.alloc _) wr.heap.size _ rfl (World.cell?_alloc_at _ _ _ _ rfl) ?_ ?_ ?_;omega;(simp;omega);intro v1 w1 hr1 hg1)
      go_roundw
      case rel=>
       refine ⟨k+1,by omega,by rw[a6,HDN.out],?_,Below.grown (HBE.out.alloc hsz _) hg1 (by simp;omega) (fun k hk=>(HR.out.lt k hk).1)⟩
       rw[←HNW.out,i64V_append]
       exact hr1
      case measure=>
       have:=HDL.out
       rw[a6]
       simp[intOf]
       omega
     ·have hk6':k=6:=by omega
      subst hk6'
      rw[B64.dm_6]
      have HR:=hide hr
      have HBE:=hide hbe
      clear hr hbe hk hk6
      go_wp2
      go_roundw
      case rel=>
       refine ⟨j+1,by omega,by go_num,?_,HBE.out⟩
       rw[HNX.out]
       exact HR.out
      case measure=>simp[intOf];omega
   ·obtain rfl:PV=(-1:Int):=by rw[←HPV.out,if_neg hV64]
    have ha:=HB2.out hV64
    subst ha
    clear HPV HB2
    go_wp2
    refine bodyPost_ret (results_tmp2 rfl _ _ _) rfl ?_
    exact ⟨rfl,below_drewN HBE.out m⟩
  ·have hjs:j=s.size:=by omega
   subst hjs
   rw[List.take_of_length_le (by omega)] at hr
   have HDL:=HDE.out
   have hbl:=HBL.out
   generalize B64.bitsT s.data.toList=P at *
   obtain ⟨L,hL⟩:∃ L:Nat,6*s.size=L:=⟨_,rfl⟩
   rw[hL] at hr hbl
   rw[hbl] at HDL
   obtain ⟨N,hN⟩:∃ N:Nat,L/8=N:=⟨_,rfl⟩
   rw[hN] at HDL
   have hLb:L≤6597069762:=by omega
   have hNL:8*N≤L∧L<8*N+8:=by omega
   have HNL:=hide hNL
   have HBE:=hide hbe
   obtain ⟨ao,cap,rfl,hc1,hc2⟩:=Row.anyN hr
   unfold maxLen at hc2
   have hcell:∀ i,i<L→∃ g,ao=some ⟨g,0,none⟩∧g<wr.heap.size∧wr.cell? ⟨g,i,none⟩=some (.int .i64 (P.getD i 0:Nat)):=by
    intro i hi
    have hiP:i<P.length:=by rw[hbl];exact hi
    obtain ⟨g,cap',cur,hv,_,hB,_,_,hcl,htk⟩:=hr.open (by omega)
    injection hv with hv1 hv2 hv3
    refine ⟨g,hv1,hB.lt,hB.cell (take_at htk ?_)⟩
    unfold i64V
    rw[List.getElem?_map,List.getElem?_eq_getElem hiP,List.getD_eq_getElem?_getD,List.getElem?_eq_getElem hiP]
    rfl
   have HC:=hide hcell
   have HDEC:=hide HDL
   generalize hW0:wr=W0 at *
   clear hW0 hr hbe hcell hbl hL hN hNL HDL HDE HBL HBAD hlt hj
   go_wp2
   go_loopw [8,9] (fun v i w2=>∃ q:Nat,q≤N∧i = .int .i64 (8*q:Nat)∧Row w2 W0.heap.size 5 1 v q (u8L (B64.decN P q))∧Below W0.heap.size W0 w2) (fun _ i _=>L+8-(intOf i).toNat)
   case atStart=>exact ⟨0,Nat.zero_le _,rfl,Row.nil _ _ _ _,Below.refl _ _⟩
   case round=>
    generalize hW2:wr=W2 at *
    clear hW2
    obtain ⟨q,hq,rfl,hr2,hbe2⟩:=hrel
    obtain ⟨I,hI⟩:∃ I:Nat,8*q=I:=⟨_,rfl⟩
    rw[hI]
    have HI:=hide hI
    have HR2:=hide hr2
    have HBE2:=hide hbe2
    have hnl:=HNL.out
    by_cases hlt:q<N
    ·have jI:(I:Int)+8≤(L:Int):=by omega
     have hIL:I+8≤L:=by omega
     have HLT:=hide hlt
     clear hI hlt hr2 hbe2 hnl
     go_wp2
     go_loopw [10,11] (fun v k w3=>∃ k' m':Nat,k'≤8∧v = .int .i64 (B64.val P I k':Nat)∧k = .int .i64 (k':Nat)∧w3=W2.drewN m') (fun _ k _=>8-(intOf k).toNat)
     case atStart=>exact ⟨0,0,by omega,rfl,rfl,rfl⟩
     case round=>
      obtain ⟨k,m2,hk,rfl,rfl,rfl⟩:=hrel
      have hV:=B64.val_lt HBT.out I k
      have hV8:2 ^ k≤256:=Nat.pow_le_pow_right (by decide) hk
      by_cases hk8:k<8
      ·obtain ⟨IK,hIK⟩:∃ IK:Nat,I+k=IK:=⟨_,rfl⟩
       obtain ⟨g,rfl,hgl,c0⟩:=HC.out IK (by omega)
       have hb2:=B64.getD_bit HBT.out IK
       have hvn:2*B64.val P I k+P.getD IK 0=B64.val P I (k+1):=by rw[B64.val,hIK]
       have c1:(W2.drewN m2).cell? ⟨g,IK,none⟩=some (.int .i64 (P.getD IK 0:Nat)):=(HBE2.out.cell hgl).trans c0
       have q1:IntKind.i64.wrap ((I:Int)+(k:Int))=(IK:Int):=(IntWalk.i64_in _ (by omega)).trans (by omega)
       have jIK:(IK:Int)<(L:Int):=by omega
       have nIK:IK<L:=by omega
       generalize P.getD IK 0=bt at *
       obtain ⟨V,hVe⟩:∃ V:Nat,B64.val P I k=V:=⟨_,rfl⟩
       rw[hVe] at hV hvn
       rw[hVe]
       obtain ⟨V2,hV2⟩:∃ V2:Nat,2*V+bt=V2:=⟨_,rfl⟩
       rw[hV2] at hvn
       have q2:IntKind.i64.wrap (2*(V:Int))=((2*V:Nat):Int):=(IntWalk.i64_in _ (by omega)).trans (by omega)
       obtain ⟨VV,hVV⟩:∃ VV:Nat,2*V=VV:=⟨_,rfl⟩
       rw[hVV] at q2
       have q3:IntKind.i64.wrap ((VV:Int)+(bt:Int))=(V2:Int):=(IntWalk.i64_in _ (by omega)).trans (by omega)
       have jk:(k:Int)<8:=by omega
       have HVN:=hide hvn
       clear hV hV8 hvn hVe hV2 hVV c0 hb2 hIK
       go_wp2
       go_roundw
       case rel=>exact ⟨k+1,m2,by omega,by rw[HVN.out],by go_num,rfl⟩
       case measure=>simp[intOf];omega
      ·have hk8':k=8:=by omega
       subst hk8'
       obtain ⟨V,hVe⟩:∃ V:Nat,B64.val P I 8=V:=⟨_,rfl⟩
       rw[hVe] at hV
       rw[hVe]
       have hnx:=B64.decN_succ P q
       rw[HI.out,hVe] at hnx
       have HNX:=hide hnx
       have qv:(V:Int)%256=(((UInt8.ofNat V).toNat:Nat):Int):=by rw[ofNat_mod];omega
       generalize UInt8.ofNat V=y at *
       have hqb:q≤17000000000:=by have:=HLT.out;have:=HNL.out;omega
       obtain ⟨ao2,cap2,rfl,hd1,hd2⟩:=Row.anyN HR2.out
       unfold maxLen at hd2
       have hsz2:=HBE2.out.size
       clear hV hV8 hVe hnx hk hk8
       go_wp2_with (at_builtin;refine wpList_append_u8 rfl (.tmp 57) (.tmp 60) rfl W0.heap.size _ q _ rfl ((HR2.out.drewN m2).alloc _) ⟨W2.heap.size,0,none⟩ 1 1 [y] rfl rfl ?_ ?_ ?_ ?_;exact one_news rfl new_one;omega;(simp;omega);intro v1 w1 hr1 hg1 hat1)
       go_roundw
       case rel=>
        have h1:=HLT.out
        have h2:=HI.out
        refine ⟨q+1,by omega,congrArg (Value.int .i64) (by omega),?_,?_⟩
        ·rw[HNX.out]
         exact hr1
        ·exact Below.grown ((below_drewN HBE2.out m2).alloc hsz2 _) hg1 (by simp;omega) (fun k hk=>(HR2.out.lt k hk).1)
       case measure=>simp[intOf];omega
    ·have hqN:q=N:=by omega
     subst hqN
     obtain ⟨ao2,cap2,rfl,hd1,hd2,hcv⟩:=Row.strAny hr2
     unfold maxLen at hd2
     have jI:¬ ((I:Int)+8≤(L:Int)):=by omega
     have jI2:(I:Int)+8≤9223372036854775807:=by omega
     rw[←HDEC.out] at hcv
     have hdl:(⟨(B64.dec s.data.toList).toArray⟩:ByteArray).size≤1099511627:=by
      rw[ba_size,HDEC.out]
      simp[B64.decN]
      omega
     have HENC:=hide (fun w=>headEncode_any ⟨(B64.dec s.data.toList).toArray⟩ w hdl)
     have hda:=HDA.out
     obtain ⟨EN,hEN⟩:∃ E,B64.enc (B64.dec s.data.toList)=E:=⟨_,rfl⟩
     rw[show (⟨(B64.dec s.data.toList).toArray⟩:ByteArray).data.toList=B64.dec s.data.toList from rfl,hEN] at HENC
     rw[hEN] at hda
     generalize hds:(⟨(B64.dec s.data.toList).toArray⟩:ByteArray)=ds at *
     have HB9:=hide (HBE.out.trans (HBE2.out.mono HBE.out.size))
     have hW9:W0.heap.size≤W2.heap.size:=HBE2.out.size
     clear hr2 hbe2 hnl hI HR2 HBE2 HBE HC HBT HDEC HNL hdl
     go_wp2_with fail
     refine (HENC.out _).mono ?_
     rintro e w9 ⟨rfl,hb9⟩
     have HB10:=hide (HB9.out.trans (hb9.mono HB9.out.size))
     clear hb9 HENC HB9
     by_cases hE:EN=s.data.toList
     ·rw[if_pos hE] at hda
      have hes:(⟨EN.toArray⟩:ByteArray)=s:=ba_ext hE
      rw[hes]
      subst hda
      have hds2:(⟨(B64.dec s.data.toList).toArray⟩:ByteArray)=ds:=hds
      have HDS:=hide hds2
      clear hes hE hds hds2 HDA hEN
      go_wp2
      refine bodyPost_ret (results_tmp2 rfl _ _ _) rfl ?_
      exact ⟨by rw[←HDS.out];rfl,HB10.out⟩
     ·rw[if_neg hE] at hda
      have z1:((⟨EN.toArray⟩:ByteArray).toList==s.toList)=false:=by
       rw[beq_eq_false_iff_ne,ByteArray.toList_eq,ByteArray.toList_eq]
       exact hE
      generalize (⟨EN.toArray⟩:ByteArray)=et at *
      subst hda
      clear hE HDA hds hEN
      go_wp2
      refine bodyPost_ret (results_tmp2 rfl _ _ _) rfl ?_
      exact ⟨rfl,HB10.out⟩
namespace B64
theorem enc_len (l:List UInt8):(enc l).length≤2*l.length+1:=by
 unfold enc encN
 rw[List.length_map,List.length_range,bits6_len]
 have:=gap_lt (8*l.length)
 omega
end B64
namespace Hd
def line1:List UInt8:=[116,105,110,121,45,98,111,120,47,49,10]
def wrapB:List UInt8:=[45,62,32,119,114,97,112,32]
def mark:List UInt8:=[45,45,45]
def at_ (l:List ByteArray) (i:Nat):List UInt8:=(l.getD i ⟨#[]⟩).data.toList
def entry (s b:List UInt8):List UInt8:=wrapB++B64.enc s++[32]++B64.enc b++[10]
def bodyP (ss bs:List ByteArray):Nat→List UInt8
 | 0=>line1
 | k+1=>bodyP ss bs k++entry (at_ ss k) (at_ bs k)
def body (ss bs:List ByteArray):List UInt8:=bodyP ss bs ss.length++mark
theorem bodyP_len (ss bs:List ByteArray) (h1:∀ x ∈ ss,x.size≤1000) (h2:∀ x ∈ bs,x.size≤1000):∀ k,(bodyP ss bs k).length≤11+5000*k
 | 0=>by show line1.length≤_;decide
 | k+1=>by
  have h:=bodyP_len ss bs h1 h2 k
  have hat:∀ (l:List ByteArray),(∀ x ∈ l,x.size≤1000)→∀ i,(at_ l i).length≤1000:=by
   intro l hl i
   unfold at_
   rw[ba_len,List.getD_eq_getElem?_getD]
   cases hi:l[i]? with
   | none=>decide
   | some b=>exact hl b (List.mem_of_getElem? hi)
  have e1:=B64.enc_len (at_ ss k)
  have e2:=B64.enc_len (at_ bs k)
  have a1:=hat ss h1 k
  have a2:=hat bs h2 k
  rw[bodyP,List.length_append]
  unfold entry wrapB
  simp only[List.length_append,List.length_cons,List.length_nil]
  omega
end Hd
theorem Strs.at {w:World} {v:Value} {l:List ByteArray} (h:Strs w v l) (i:Nat) (hi:i<l.length):∃ g o c,v = .slice (some ⟨g,o,none⟩) l.length c∧g<w.heap.size∧w.cell? ⟨g,o+i,none⟩=some (.string (l.getD i ⟨#[]⟩)):=by
 rcases h with ⟨rfl,_⟩ | ⟨g,o,c,rfl,hc⟩
 ·exact absurd hi (by simp)
 ·have h1:=hc i l[i] (List.getElem?_eq_getElem hi)
  refine ⟨g,o,c,rfl,World.block_lt_of_cell? w _ h1,?_⟩
  rw[h1,List.getD_eq_getElem?_getD,List.getElem?_eq_getElem hi]
  rfl
theorem Strs.len {w:World} {v:Value} {l:List ByteArray} (h:Strs w v l):∃ ao c,v = .slice ao l.length c:=by
 rcases h with ⟨rfl,ao,c,rfl⟩ | ⟨g,o,c,rfl,_⟩
 ·exact ⟨_,_,rfl⟩
 ·exact ⟨_,_,rfl⟩
set_option maxRecDepth 100000 in
set_option maxHeartbeats 3200000 in
theorem headBody_any (B:Nat) (vs vb:Value) (mac:ByteArray) (ss bs:List ByteArray) (w:World) (hB:Blk w B 155 [vs,vb,.string mac]) (h1:Strs w vs ss) (h2:Strs w vb bs) (hl:bs.length=ss.length) (hn:ss.length≤1000) (hz1:∀ x ∈ ss,x.size≤1000) (hz2:∀ x ∈ bs,x.size≤1000):
  Calls Tryz.prog 184 #[.pointer (some ⟨B,0,none⟩)] w fun e w'=>e = .returned (.string ⟨(Hd.body ss bs).toArray⟩)∧Below w.heap.size w w':=by
 have c0:=hB.cell (i:=0) rfl
 have c1:=hB.cell (i:=1) rfl
 have hBl:=hB.lt
 obtain ⟨ao,cp,rfl⟩:=h1.len
 obtain ⟨bo,dp,rfl⟩:=h2.len
 rw[hl] at c1
 have HS1:=hide h1
 have HS2:=hide h2
 have hbl:=Hd.bodyP_len ss bs hz1 hz2
 have HBL:=hide hbl
 have HZ1:=hide hz1
 have HZ2:=hide hz2
 unfold Hd.body
 obtain ⟨n,hn0⟩:∃ n:Nat,ss.length=n:=⟨_,rfl⟩
 have HHL:=hide hl
 rw[hn0] at c0 c1 hn
 rw[hn0]
 have HN:=hide hn0
 have HC0:=hide c0
 have HC1:=hide c1
 clear hB h1 h2 hbl hz1 hz2 hl hn0 c0 c1
 go_enter Tryz.func184,Tryz.ntmps184
 go_wp2
 go_loopw [3,4] (fun t i wr=>∃ k:Nat,k≤n∧t = .string ⟨(Hd.bodyP ss bs k).toArray⟩∧i = .int .i64 (k:Nat)∧Below w.heap.size w wr) (fun _ i _=>n-(intOf i).toNat)
 case atStart=>exact ⟨0,Nat.zero_le _,rfl,rfl,Below.refl _ _⟩
 case round=>
  obtain ⟨k,hk,rfl,rfl,hbe⟩:=hrel
  have d0:wr.cell? ⟨B,0,none⟩=some (.slice ao n cp):=(hbe.cell hBl).trans HC0.out
  have d1:wr.cell? ⟨B,1,none⟩=some (.slice bo n dp):=(hbe.cell hBl).trans HC1.out
  have htl:=HBL.out k
  rw[←ba_size] at htl
  by_cases hlt:k<n
  ·obtain ⟨g,o,c,hv1,hgl,e1⟩:=HS1.out.at k (by rw[HN.out];exact hlt)
   injection hv1 with hv1 _ _
   subst hv1
   obtain ⟨g2,o2,cc2,hv2,hgl2,e2⟩:=HS2.out.at k (by rw[HHL.out,HN.out];exact hlt)
   injection hv2 with hv2 _ _
   subst hv2
   have f1:=(hbe.cell hgl).trans e1
   have f2:=(hbe.cell hgl2).trans e2
   have z1:(ss.getD k ⟨#[]⟩).size≤1000:=by
    rw[List.getD_eq_getElem?_getD,List.getElem?_eq_getElem (by rw[HN.out];exact hlt)]
    exact HZ1.out _ (List.getElem_mem _)
   have z2:(bs.getD k ⟨#[]⟩).size≤1000:=by
    rw[List.getD_eq_getElem?_getD,List.getElem?_eq_getElem (by rw[HHL.out,HN.out];exact hlt)]
    exact HZ2.out _ (List.getElem_mem _)
   have hnx:Hd.bodyP ss bs (k+1)=Hd.bodyP ss bs k++(Hd.wrapB++B64.enc (ss.getD k ⟨#[]⟩).data.toList++[32]++B64.enc (bs.getD k ⟨#[]⟩).data.toList++[10]):=rfl
   generalize ss.getD k ⟨#[]⟩=sk at *
   generalize bs.getD k ⟨#[]⟩=bk at *
   have HE1:=hide (fun w=>headEncode_any sk w (by omega))
   have HE2:=hide (fun w=>headEncode_any bk w (by omega))
   have l1:=B64.enc_len sk.data.toList
   have l2:=B64.enc_len bk.data.toList
   rw[ba_len] at l1 l2
   have hcc:(⟨(Hd.bodyP ss bs k).toArray⟩:ByteArray)++⟨#[45,62,32,119,114,97,112,32]⟩++⟨(B64.enc sk.data.toList).toArray⟩++⟨#[32]⟩++⟨(B64.enc bk.data.toList).toArray⟩++⟨#[10]⟩=⟨(Hd.bodyP ss bs (k+1)).toArray⟩:=by
    apply ba_ext
    rw[hnx]
    simp only[ba_list]
    unfold Hd.wrapB
    simp only[List.append_assoc]
   rw[←ba_size] at l1 l2
   generalize (⟨(B64.enc sk.data.toList).toArray⟩:ByteArray)=ea at *
   generalize (⟨(B64.enc bk.data.toList).toArray⟩:ByteArray)=eb at *
   generalize (⟨(Hd.bodyP ss bs k).toArray⟩:ByteArray)=tk at *
   have HCC:=hide hcc
   have hsz:=hbe.size
   have HBE:=hide hbe
   have jk:(k:Int)<(n:Int):=by omega
   have HLT:=hide hlt
   have u1:¬ (9223372036854775807<tk.size+8):=by omega
   have u2:¬ (9223372036854775807<tk.size+8+ea.size):=by omega
   have u3:¬ (9223372036854775807<tk.size+8+ea.size+1):=by omega
   have u4:¬ (9223372036854775807<tk.size+8+ea.size+1+eb.size):=by omega
   have u5:¬ (9223372036854775807<tk.size+8+ea.size+1+eb.size+1):=by omega
   clear hbe e1 e2 hnx z1 z2 l1 l2 hcc hlt htl
   go_wp2_with fail
   refine (HE1.out _).mono ?_
   rintro e w2 ⟨rfl,hb2⟩
   have B2:=hide (HBE.out.trans (hb2.mono hsz))
   have g0:w2.cell? ⟨B,0,none⟩=some (.slice (some ⟨g,o,none⟩) n cp):=(hb2.cell (Nat.lt_of_lt_of_le hBl hsz)).trans d0
   have g1:w2.cell? ⟨B,1,none⟩=some (.slice (some ⟨g2,o2,none⟩) n dp):=(hb2.cell (Nat.lt_of_lt_of_le hBl hsz)).trans d1
   have g2c:=(hb2.cell (Nat.lt_of_lt_of_le hgl2 hsz)).trans f2
   clear hb2 HE1 d0 d1 f1 f2 HBE
   go_wp2_with fail
   refine (HE2.out _).mono ?_
   rintro e w3 ⟨rfl,hb3⟩
   have B3:=hide (B2.out.trans (hb3.mono B2.out.size))
   clear hb3 HE2 g0 g1 g2c B2
   go_wp2
   go_roundw
   case rel=>
    have:=HLT.out
    exact ⟨k+1,by omega,by rw[HCC.out],by go_num,B3.out⟩
   case measure=>have:=HLT.out;simp[intOf];omega
  ·have hkn:k=n:=by omega
   subst hkn
   have hcc:(⟨(Hd.bodyP ss bs k).toArray⟩:ByteArray)++⟨#[45,45,45]⟩=⟨(Hd.bodyP ss bs k++Hd.mark).toArray⟩:=by
    apply ba_ext
    rw[ba_list]
    rfl
   have HCC:=hide hcc
   generalize (⟨(Hd.bodyP ss bs k).toArray⟩:ByteArray)=tk at *
   have u1:¬ (9223372036854775807<tk.size+3):=by omega
   have HBE:=hide hbe
   clear hcc hbe hlt hk htl
   go_wp2
   go_ret
   exact ⟨by rw[←HCC.out];rfl,HBE.out⟩
namespace Hd
def text (ss bs:List ByteArray) (mac:ByteArray):List UInt8:=body ss bs++[32]++B64.enc mac.data.toList++[10]
def prAns (ss bs:List ByteArray) (mac:ByteArray):List UInt8 × Int:=
 if ss.length=0∨3<ss.length∨bs.length≠ss.length then ([],2)
 else if (∃ i,i<ss.length∧((ss.getD i ⟨#[]⟩).size≠16∨(bs.getD i ⟨#[]⟩).size≠32))∨mac.size≠32 then ([],1)
 else (text ss bs mac,0)
theorem getD_size {l:List ByteArray} {n:Nat} (h:∀ i,i<l.length→(l.getD i ⟨#[]⟩).size=n):∀ x ∈ l,x.size=n:=by
 intro x hx
 obtain ⟨i,hi,rfl⟩:=List.getElem_of_mem hx
 have:=h i hi
 rw[List.getD_eq_getElem?_getD,List.getElem?_eq_getElem hi] at this
 exact this
end Hd
set_option maxRecDepth 100000 in
set_option maxHeartbeats 3200000 in
theorem headPrint_any (vs vb:Value) (mac:ByteArray) (ss bs:List ByteArray) (w:World) (h1:Strs w vs ss) (h2:Strs w vb bs) (hn1:ss.length≤1099511627776) (hn2:bs.length≤1099511627776):
  Calls Tryz.prog 127 #[.agg #[vs,vb,.string mac]] w fun e w'=>e = .returned (.tuple #[.string ⟨(Hd.prAns ss bs mac).1.toArray⟩,.int .i64 (Hd.prAns ss bs mac).2])∧Below w.heap.size w w':=by
 obtain ⟨ao,cp,rfl⟩:=h1.len
 obtain ⟨bo,dp,rfl⟩:=h2.len
 obtain ⟨ans,hans⟩:∃ a,Hd.prAns ss bs mac=a:=⟨_,rfl⟩
 rw[hans]
 unfold Hd.prAns at hans
 have hbA:Below w.heap.size w (w.alloc (.cells #[.slice ao ss.length cp,.slice bo bs.length dp,.string mac] 155)):=(Below.refl _ _).alloc (Nat.le_refl _) _
 have hBlk:Blk (w.alloc (.cells #[.slice ao ss.length cp,.slice bo bs.length dp,.string mac] 155)) w.heap.size 155 [.slice ao ss.length cp,.slice bo bs.length dp,.string mac]:=Blk.new rfl rfl
 have HS1:=hide h1
 have HS2:=hide h2
 have HANS:=hide hans
 clear h1 h2 hans
 obtain ⟨n,hn⟩:∃ n:Nat,ss.length=n:=⟨_,rfl⟩
 obtain ⟨nb,hnb⟩:∃ n:Nat,bs.length=n:=⟨_,rfl⟩
 have ha:=HANS.out
 rw[hn,hnb] at ha
 rw[hn] at hbA hBlk hn1 ⊢
 rw[hnb] at hbA hBlk hn2 ⊢
 have HNN:=hide hn
 have HNB:=hide hnb
 have HB:=hide hbA
 have HBK:=hide hBlk
 clear HANS hbA hBlk hn hnb
 by_cases h0:n=0
 ·have z0:((n:Int)==0)=true:=beq_iff_eq.2 (by omega)
  rw[if_pos (.inl h0)] at ha
  subst ha
  clear h0 HS1 HS2 HBK HNN HNB
  go_enter Tryz.func127,Tryz.ntmps127
  go_wp2
  refine bodyPost_ret (results_tmp2 rfl _ _ _) rfl ?_
  exact ⟨rfl,HB.out⟩
 ·have z0:((n:Int)==0)=false:=beq_eq_false_iff_ne.2 (by omega)
  by_cases h3:3<n
  ·have z3:(decide ((3:Int)<(n:Int)))=true:=by simp;omega
   rw[if_pos (.inr (.inl h3))] at ha
   subst ha
   clear h0 h3 HS1 HS2 HBK HNN HNB
   go_enter Tryz.func127,Tryz.ntmps127
   go_wp2
   refine bodyPost_ret (results_tmp2 rfl _ _ _) rfl ?_
   exact ⟨rfl,HB.out⟩
  ·have z3:(decide ((3:Int)<(n:Int)))=false:=by simp;omega
   by_cases hb:nb=n
   ·subst hb
    have zb:((nb:Int) != (nb:Int))=false:=by simp
    rw[if_neg (by omega)] at ha
    have HA:=hide ha
    clear ha
    go_enter Tryz.func127,Tryz.ntmps127
    go_wp2
    go_loopw [5] (fun i wr=>∃ k m:Nat,k≤nb∧i = .int .i64 (k:Nat)∧(∀ j,j<k→(ss.getD j ⟨#[]⟩).size=16∧(bs.getD j ⟨#[]⟩).size=32)∧wr=(w.alloc (.cells #[.slice ao nb cp,.slice bo nb dp,.string mac] 155)).drewN m) (fun i _=>nb-(intOf i).toNat)
    case atStart=>exact ⟨0,0,Nat.zero_le _,rfl,fun j hj=>absurd hj (by omega),rfl⟩
    case round=>
     obtain ⟨k,m,hk,rfl,hgood,rfl⟩:=hrel
     obtain ⟨WA,hWA⟩:∃ WA,(w.alloc (.cells #[.slice ao nb cp,.slice bo nb dp,.string mac] 155)).drewN m=WA:=⟨_,rfl⟩
     have hbl:Below w.heap.size w WA:=by rw[←hWA];exact below_drewN HB.out m
     have hbk:Blk WA w.heap.size 155 [.slice ao nb cp,.slice bo nb dp,.string mac]:=by rw[←hWA];exact HBK.out
     rw[hWA]
     have HWA:=hide hWA
     have c0:=hbk.cell (i:=0) rfl
     have c1:=hbk.cell (i:=1) rfl
     have c2:=hbk.cell (i:=2) rfl
     have HG:=hide hgood
     have HBL:=hide hbl
     have HBKK:=hide hbk
     clear hWA hgood hbk
     by_cases hlt:k<nb
     ·obtain ⟨g,o,c,hv1,hgl,e1⟩:=HS1.out.at k (by rw[HNN.out];exact hlt)
      injection hv1 with hv1 _ _
      subst hv1
      obtain ⟨g2,o2,cc2,hv2,hgl2,e2⟩:=HS2.out.at k (by rw[HNB.out];exact hlt)
      injection hv2 with hv2 _ _
      subst hv2
      have f1:=(hbl.cell hgl).trans e1
      have f2:=(hbl.cell hgl2).trans e2
      have jk:(k:Int)<(nb:Int):=by omega
      have hg1:(ss.getD k ⟨#[]⟩).size=(ss.getD k ⟨#[]⟩).size:=rfl
      obtain ⟨sk,hsk⟩:∃ x,ss.getD k ⟨#[]⟩=x:=⟨_,rfl⟩
      obtain ⟨bk,hbk⟩:∃ x,bs.getD k ⟨#[]⟩=x:=⟨_,rfl⟩
      rw[hsk] at f1
      rw[hbk] at f2
      have HSK:=hide hsk
      have HBB:=hide hbk
      have HLT:=hide hlt
      clear e1 e2 hbl hg1 hsk hbk hlt
      by_cases hz1:sk.size=16
      ·by_cases hz2:bk.size=32
       ·have y1:((sk.size:Int) != 16)=false:=by rw[hz1];rfl
        have y2:((bk.size:Int) != 32)=false:=by rw[hz2];rfl
        have HZ1:=hide hz1
        have HZ2:=hide hz2
        clear hz1 hz2
        go_wp2
        go_roundw
        case rel=>
         have hlt:=HLT.out
         refine ⟨k+1,m,by omega,by go_num,fun j hj=>?_,HWA.out.symm⟩
         rcases Nat.lt_succ_iff_lt_or_eq.1 hj with h | h
         ·exact HG.out j h
         ·rw[h,HSK.out,HBB.out];exact ⟨HZ1.out,HZ2.out⟩
        case measure=>have hlt:=HLT.out;simp[intOf];omega
       ·have y1:((sk.size:Int) != 16)=false:=by rw[hz1];rfl
        have y2:((bk.size:Int) != 32)=true:=by rw[bne_iff_ne];omega
        have ha:=HA.out
        rw[if_pos (.inl ⟨k,HLT.out,.inr (by rw[HBB.out];exact hz2)⟩)] at ha
        subst ha
        clear hz1 hz2
        go_wp2
        refine bodyPost_ret (results_tmp2 rfl _ _ _) rfl ?_
        exact ⟨rfl,HBL.out⟩
      ·have y1:((sk.size:Int) != 16)=true:=by rw[bne_iff_ne];omega
       have ha:=HA.out
       rw[if_pos (.inl ⟨k,HLT.out,.inl (by rw[HSK.out];exact hz1)⟩)] at ha
       subst ha
       clear hz1
       go_wp2
       refine bodyPost_ret (results_tmp2 rfl _ _ _) rfl ?_
       exact ⟨rfl,HBL.out⟩
     ·have hkn:k=nb:=by omega
      subst hkn
      by_cases hm:mac.size=32
      ·have ym:((mac.size:Int) != 32)=false:=by rw[hm];rfl
       have ha:=HA.out
       have hgood:=HG.out
       rw[if_neg (by
        rintro (⟨i,hi,h⟩ | h)
        ·have:=hgood i hi
         omega
        ·exact h hm)] at ha
       have g1:∀ x ∈ ss,x.size=16:=Hd.getD_size (fun i hi=>(hgood i (by rw[HNN.out] at hi;exact hi)).1)
       have g2:∀ x ∈ bs,x.size=32:=Hd.getD_size (fun i hi=>(hgood i (by rw[HNB.out] at hi;exact hi)).2)
       have k1:Strs WA (.slice ao ss.length cp) ss:=by
        rcases HS1.out with h | ⟨g,o,c,hv,hc⟩
        ·exact .inl h
        ·exact .inr ⟨g,o,c,hv,fun i x hx=>(hbl.cell (World.block_lt_of_cell? w _ (hc i x hx))).trans (hc i x hx)⟩
       have k2:Strs WA (.slice bo bs.length dp) bs:=by
        rcases HS2.out with h | ⟨g,o,c,hv,hc⟩
        ·exact .inl h
        ·exact .inr ⟨g,o,c,hv,fun i x hx=>(hbl.cell (World.block_lt_of_cell? w _ (hc i x hx))).trans (hc i x hx)⟩
       rw[HNN.out] at k1
       rw[HNB.out] at k2
       have HBODY:=hide (headBody_any w.heap.size _ _ mac ss bs WA HBKK.out k1 k2 (by rw[HNN.out,HNB.out]) (by rw[HNN.out];omega) (fun x hx=>by rw[g1 x hx];decide) (fun x hx=>by rw[g2 x hx];decide))
       have HENC:=hide (fun w=>headEncode_any mac w (by omega))
       have hbsz:(⟨(Hd.body ss bs).toArray⟩:ByteArray).size≤1000000:=by
        have h:=Hd.bodyP_len ss bs (fun x hx=>by rw[g1 x hx];decide) (fun x hx=>by rw[g2 x hx];decide) ss.length
        rw[HNN.out] at h
        rw[ba_size]
        unfold Hd.body Hd.mark
        rw[List.length_append,HNN.out]
        simp only[List.length_cons,List.length_nil]
        omega
       have hel:=B64.enc_len mac.data.toList
       rw[ba_len,←ba_size] at hel
       have hcc:(⟨(Hd.body ss bs).toArray⟩:ByteArray)++⟨#[32]⟩++⟨(B64.enc mac.data.toList).toArray⟩++⟨#[10]⟩=⟨(Hd.text ss bs mac).toArray⟩:=by
        apply ba_ext
        simp only[ba_list]
        rfl
       have htx:ans=(Hd.text ss bs mac,0):=ha.symm
       have hBl9:=HBKK.out.lt
       subst htx
       generalize (⟨(Hd.body ss bs).toArray⟩:ByteArray)=tb at *
       generalize (⟨(B64.enc mac.data.toList).toArray⟩:ByteArray)=em at *
       have HCC:=hide hcc
       have u1:¬ (9223372036854775807<tb.size+1):=by omega
       have u2:¬ (9223372036854775807<tb.size+1+em.size):=by omega
       have u3:¬ (9223372036854775807<tb.size+1+em.size+1):=by omega
       clear hm ha hgood g1 g2 k1 k2 hbsz hel hcc hlt hk HA HG hbl
       go_wp2_with fail
       refine HBODY.out.mono ?_
       rintro e w5 ⟨rfl,hb5⟩
       have d2:w5.cell? ⟨w.heap.size,2,none⟩=some (.string mac):=(hb5.cell hBl9).trans c2
       have B5:=hide (HBL.out.trans (hb5.mono HBL.out.size))
       clear hb5 HBODY
       go_wp2_with fail
       refine (HENC.out _).mono ?_
       rintro e w6 ⟨rfl,hb6⟩
       have B6:=hide (B5.out.trans (hb6.mono B5.out.size))
       clear hb6 HENC B5
       go_wp2
       refine bodyPost_ret (results_tmp2 rfl _ _ _) rfl ?_
       exact ⟨by rw[←HCC.out];rfl,B6.out⟩
      ·have ym:((mac.size:Int) != 32)=true:=by rw[bne_iff_ne];omega
       have ha:=HA.out
       rw[if_pos (.inr hm)] at ha
       subst ha
       clear hm hlt hk
       go_wp2
       refine bodyPost_ret (results_tmp2 rfl _ _ _) rfl ?_
       exact ⟨rfl,HBL.out⟩
   ·have zb:((nb:Int) != (n:Int))=true:=by rw[bne_iff_ne];omega
    rw[if_pos (.inr (.inr hb))] at ha
    subst ha
    clear h0 h3 hb HS1 HS2 HBK HNN HNB
    go_enter Tryz.func127,Tryz.ntmps127
    go_wp2
    refine bodyPost_ret (results_tmp2 rfl _ _ _) rfl ?_
    exact ⟨rfl,HB.out⟩
theorem wpList_append_strB {ops:Array Oper} {rest:List Oper} {o:Oper} {a:Act} {w:World} {Q:Exit→Act→World→Prop} (hgd:o.guard=none) (s x:Operand)
  (ho:o.op = .call { callee:=.builtin .append,args:=#[s,x],argTypes:=#[41,41] })
  (base:Nat) (v:Value) (n:Nat) (xs:List ByteArray) (hs:a.eval s=v) (hown:Row w base 9 1 v n (strV xs))
  (g:Nat) (y:ByteArray) (hx:a.eval x = .slice (some ⟨g,0,none⟩) 1 1) (hnew:w.cell? ⟨g,0,none⟩=some (.string y)) (hn:n≤1099511627) (hbase:base≤w.heap.size)
  (h:∀ v' w',Row w' base 9 1 v' (n+1) (strV (xs++[y]))→w.grownBy w' v.ownBlock→(v'.ownBlock=v.ownBlock∨∃ g,v'.ownBlock=some g∧w.heap.size≤g)→wpList Tryz.prog ops Q rest (a.put o.dst v') w'):wpList Tryz.prog ops Q (o::rest) a w:=by
 obtain ⟨i0,hi,hz0,hz1,hz2⟩:=info_parts infoStr
 refine wpList_plain hgd fun _ hK=>?_
 refine wp_append_row s x 41 ho i0 (.string ByteArray.empty) 16 Tryz.underlying41 hi hz0 hz1 hz2 rfl (by decide) v n (strV xs) hs hown ⟨g,0,none⟩ 1 1 [.string y] hx rfl ?_ ?_ ?_ ?_ hbase ?_
 ·intro j u hj
  match j,hj with
  | 0,hj=>simp at hj;subst hj;rw[Addr.add_mid];exact hnew
 ·intro u hu;simp at hu;subst hu;rfl
 ·unfold maxLen;omega
 ·omega
 ·intro v' w' h1 h2 h3
  exact hK _ _ (h v' w' (by simpa [strV] using h1) h2 h3)
namespace Hd
def cutS (s:ByteArray) (c:UInt8):Nat→List ByteArray × Nat
 | 0=>([],0)
 | k+1=>if s.data.toList.getD k 0=c then ((cutS s c k).1++[s.extract (cutS s c k).2 k],k+1) else cutS s c k
def cut (s:ByteArray) (c:UInt8):List ByteArray:=(cutS s c s.size).1++[s.extract (cutS s c s.size).2 s.size]
theorem cutS_le (s:ByteArray) (c:UInt8):∀ k,(cutS s c k).1.length≤k∧(cutS s c k).2≤k
 | 0=>⟨Nat.le_refl _,Nat.le_refl _⟩
 | k+1=>by
  have h:=cutS_le s c k
  rw[cutS]
  split
  ·exact ⟨by rw[List.length_append];simp;omega,Nat.le_refl _⟩
  ·omega
end Hd
set_option maxRecDepth 100000 in
set_option maxHeartbeats 1600000 in
theorem headCut_any (s:ByteArray) (c:UInt8) (w:World) (hs:s.size≤1000000000):
  Calls Tryz.prog 181 #[.string s,.int .u8 ((c.toNat:Nat):Int)] w fun e w'=>∃ v,e = .returned v∧Row w' w.heap.size 9 1 v (Hd.cut s c).length (strV (Hd.cut s c))∧Below w.heap.size w w':=by
 go_enter Tryz.func181,Tryz.ntmps181
 go_wp2
 go_loopw [5,6,7] (fun v f i wr=>∃ k:Nat,k≤s.size∧f = .int .i64 ((Hd.cutS s c k).2:Nat)∧i = .int .i64 (k:Nat)∧Row wr w.heap.size 9 1 v (Hd.cutS s c k).1.length (strV (Hd.cutS s c k).1)∧Below w.heap.size w wr) (fun _ _ i _=>s.size-(intOf i).toNat)
 case atStart=>exact ⟨0,Nat.zero_le _,rfl,rfl,Row.nil _ _ _ _,Below.refl _ _⟩
 case round=>
  obtain ⟨k,hk,rfl,rfl,hr,hbe⟩:=hrel
  have hsz:=hbe.size
  obtain ⟨hl1,hl2⟩:=Hd.cutS_le s c k
  obtain ⟨F,hF⟩:∃ F:Nat,(Hd.cutS s c k).2=F:=⟨_,rfl⟩
  obtain ⟨ps,hps⟩:∃ ps,(Hd.cutS s c k).1=ps:=⟨_,rfl⟩
  obtain ⟨n,hn⟩:∃ n:Nat,ps.length=n:=⟨_,rfl⟩
  rw[hF] at hl2
  rw[hps,hn] at hl1 hr
  rw[hF]
  have HR:=hide hr
  have HBE:=hide hbe
  by_cases hlt:k<s.size
  ·have hnx:Hd.cutS s c (k+1)=if s.data.toList.getD k 0=c then ((Hd.cutS s c k).1++[s.extract (Hd.cutS s c k).2 k],k+1) else Hd.cutS s c k:=rfl
   rw[hF,hps,←byte_at s k hlt] at hnx
   have jk:(k:Int)<(s.size:Int):=by omega
   have nk:k≤s.size:=by omega
   have jF:(F:Int)≤(k:Int):=by omega
   by_cases hc:(s[k]'hlt)=c
   ·rw[if_pos hc] at hnx
    have z1:((((s[k]'hlt).toNat:Nat):Int)==((c.toNat:Nat):Int))=true:=by rw[hc];simp
    have HNX:=hide hnx
    have HNN:=hide hn
    have HLT:=hide hlt
    clear hnx hc hF hps hn hr hbe
    obtain ⟨ao,cap,rfl,hc1,hc2⟩:=Row.anyN HR.out
    unfold maxLen at hc2
    go_wp2_with (at_builtin;refine wpList_append_strB rfl (.tmp 19) (.tmp 24) rfl w.heap.size _ n _ rfl (HR.out.alloc _) wr.heap.size _ rfl (World.cell?_alloc_at _ _ _ _ rfl) ?_ ?_ ?_;omega;(simp;omega);intro v1 w1 hr1 hg1 hat1)
    go_roundw
    case rel=>
     have hlt:=HLT.out
     have hnx:=HNX.out
     refine ⟨k+1,by omega,by rw[hnx];go_num,by go_num,?_,Below.grown (HBE.out.alloc hsz _) hg1 (by simp;omega) (fun k hk=>(HR.out.lt k hk).1)⟩
     rw[hnx,List.length_append,HNN.out]
     exact hr1
    case measure=>have hlt:=HLT.out;simp[intOf];omega
   ·rw[if_neg hc] at hnx
    have z1:((((s[k]'hlt).toNat:Nat):Int)==((c.toNat:Nat):Int))=false:=beq_eq_false_iff_ne.2 (fun e=>hc (UInt8.toNat_inj.1 (by omega)))
    have hnr:=hr
    rw[←hn,←hps,←hnx] at hnr
    have hnf:(Hd.cutS s c (k+1)).2=F:=by rw[hnx,hF]
    have HNR:=hide hnr
    have HNF:=hide hnf
    have HLT:=hide hlt
    clear hnx hc hF hps hn hr hbe hnr hnf
    go_wp2
    go_roundw
    case rel=>
     have hlt:=HLT.out
     exact ⟨k+1,by omega,by rw[HNF.out],by go_num,HNR.out,HBE.out⟩
    case measure=>have hlt:=HLT.out;simp[intOf];omega
  ·have hks:k=s.size:=by omega
   subst hks
   have hct:Hd.cut s c=ps++[s.extract F s.size]:=by unfold Hd.cut;rw[hF,hps]
   have HCT:=hide hct
   have HNN:=hide hn
   obtain ⟨ao,cap,rfl,hc1,hc2⟩:=Row.anyN HR.out
   unfold maxLen at hc2
   have jF:(F:Int)≤(s.size:Int):=by omega
   clear hct hF hps hn hr hbe hlt hk
   go_wp2_with (at_builtin;refine wpList_append_strB rfl (.tmp 28) (.tmp 32) rfl w.heap.size _ n _ rfl (HR.out.alloc _) wr.heap.size _ rfl (World.cell?_alloc_at _ _ _ _ rfl) ?_ ?_ ?_;omega;(simp;omega);intro v1 w1 hr1 hg1 hat1)
   go_ret
   refine ⟨_,rfl,?_,Below.grown (HBE.out.alloc hsz _) hg1 (by simp;omega) (fun k hk=>(HR.out.lt k hk).1)⟩
   rw[HCT.out,List.length_append,HNN.out]
   exact hr1
theorem Stays.setCell {T:Tags} (w:World) (g i:Nat) (u:Value) {S:Nat × Nat→Prop} (hS:S (T g)):Stays T T w (w.setCell ⟨g,i,none⟩ u) S:=
 ⟨rfl,rfl,rfl,by show w.heap.size≤(w.heap.modify _ _).size;simp,fun _ _=>rfl,fun j _ hn=>Below.heap_setCell w ⟨g,i,none⟩ _ j (fun e=>hn (by rw[e];exact hS))⟩
namespace Hd
def byT (x:ByteArray):ByteArray:=⟨(B64.decAns x.data.toList).1.toArray⟩
structure St where
 ss:List ByteArray
 bs:List ByteArray
 mac:ByteArray
def nil:St:=⟨[],[],⟨#[]⟩⟩
def stepL (st:St) (line:ByteArray):St:=
 if (cut line 32).length=4 then ⟨st.ss++[byT ((cut line 32).getD 2 ⟨#[]⟩)],st.bs++[byT ((cut line 32).getD 3 ⟨#[]⟩)],st.mac⟩
 else if (cut line 32).length=2 then ⟨st.ss,st.bs,byT ((cut line 32).getD 1 ⟨#[]⟩)⟩
 else st
def lines (ls:List ByteArray):Nat→St
 | 0=>nil
 | k+1=>stepL (lines ls k) (ls.getD (k+1) ⟨#[]⟩)
def parsed (t:ByteArray):St:=lines (cut t 10) ((cut t 10).length-2)
def parAns (t:ByteArray):St × Int:=
 if 284<t.size then (nil,6) else if prAns (parsed t).ss (parsed t).bs (parsed t).mac=(t.data.toList,0) then (parsed t,0) else (nil,6)
end Hd
set_option maxHeartbeats 800000 in
theorem headBytes_any (s:ByteArray) (w:World) (hs:s.size≤1099511627):
  Calls Tryz.prog 182 #[.string s] w fun e w'=>e = .returned (.string (Hd.byT s))∧Below w.heap.size w w':=by
 have HD:=hide (fun w=>headDecode_any s w hs)
 have hb:(⟨(B64.decAns s.data.toList).1.toArray⟩:ByteArray)=Hd.byT s:=rfl
 rw[hb] at HD
 generalize (B64.decAns s.data.toList).2=er at *
 generalize Hd.byT s=bt at *
 clear hb
 go_enter Tryz.func182,Tryz.ntmps182
 go_wp2_with fail
 refine (HD.out _).mono ?_
 rintro e w1 ⟨rfl,hb1⟩
 have B1:=hide hb1
 clear hb1 HD
 go_wp2
 go_ret
 exact ⟨rfl,B1.out⟩
theorem Row.strs {w:World} {base:Nat} {v:Value} {l:List ByteArray} (h:Row w base 9 1 v l.length (strV l)):Strs w v l:=by
 rcases Nat.eq_zero_or_pos l.length with h0 | h0
 ·obtain ⟨ao,cap,rfl,_⟩:=Row.anyN h
  exact .inl ⟨List.eq_nil_of_length_eq_zero h0,ao,cap,by rw[h0]⟩
 ·obtain ⟨g,cap,cur,rfl,_,hB,_,_,_,htk⟩:=h.open h0
  refine .inr ⟨g,0,cap,rfl,fun i x hx=>?_⟩
  rw[Nat.zero_add]
  exact hB.cell (take_at htk (by simp[strV,hx]))
theorem Strs.below {w w':World} {v:Value} {l:List ByteArray} (h:Strs w v l) {B:Nat} (hb:Below B w w') (hB:∀ g o n c,v = .slice (some ⟨g,o,none⟩) n c→0<l.length→g<B):Strs w' v l:=by
 rcases h with h | ⟨g,o,c,rfl,hc⟩
 ·exact .inl h
 ·refine .inr ⟨g,o,c,rfl,fun i x hx=>?_⟩
  have hl:0<l.length:=Nat.lt_of_le_of_lt (Nat.zero_le i) (List.getElem?_eq_some_iff.1 hx).1
  rw[hb.cell (show (⟨g,o+i,none⟩:Addr).block<B from hB g o _ c rfl hl)]
  exact hc i x hx
theorem Strs.blt {w:World} {v:Value} {l:List ByteArray} (h:Strs w v l):∀ g o n c,v = .slice (some ⟨g,o,none⟩) n c→0<l.length→g<w.heap.size:=by
 intro g o n c hv hl
 obtain ⟨g',o',c',hv',hlt,_⟩:=h.at 0 hl
 rw[hv] at hv'
 cases hv'
 exact hlt
theorem Strs.after {w w':World} {v:Value} {l:List ByteArray} (h:Strs w v l) (hb:Below w.heap.size w w'):Strs w' v l:=h.below hb h.blt
namespace Hd
theorem cutS_size (s:ByteArray) (c:UInt8):∀ k,∀ x ∈ (cutS s c k).1,x.size≤s.size
 | 0,x,h=>by cases h
 | k+1,x,h=>by
  rw[cutS] at h
  split at h
  ·rcases List.mem_append.1 h with h | h
   ·exact cutS_size s c k x h
   ·rw[List.mem_singleton.1 h,ByteArray.size_extract];omega
  ·exact cutS_size s c k x h
theorem cut_size (s:ByteArray) (c:UInt8):∀ x ∈ cut s c,x.size≤s.size:=by
 intro x h
 rcases List.mem_append.1 h with h | h
 ·exact cutS_size s c _ x h
 ·rw[List.mem_singleton.1 h,ByteArray.size_extract];omega
theorem cut_len (s:ByteArray) (c:UInt8):1≤(cut s c).length∧(cut s c).length≤s.size+1:=by
 have h:=cutS_le s c s.size
 unfold cut
 rw[List.length_append]
 simp
 omega
theorem getD_le {l:List ByteArray} {n:Nat} (h:∀ x ∈ l,x.size≤n) (i:Nat):(l.getD i ⟨#[]⟩).size≤n:=by
 rw[List.getD_eq_getElem?_getD]
 cases hi:l[i]? with
 | none=>exact Nat.zero_le _
 | some b=>exact h b (List.mem_of_getElem? hi)
theorem lines_len (ls:List ByteArray):∀ k,(lines ls k).ss.length≤k∧(lines ls k).bs.length≤k
 | 0=>⟨Nat.le_refl _,Nat.le_refl _⟩
 | k+1=>by
  have h:=lines_len ls k
  rw[lines]
  unfold stepL
  split
  ·simp only[List.length_append,List.length_cons,List.length_nil];omega
  ·split
   ·show (lines ls k).ss.length≤_∧(lines ls k).bs.length≤_
    omega
   ·omega
end Hd
structure PSt (T:Tags) (w0:World) (hb rb:Nat) (vl vs vb:Value) (ls ss bs:List ByteArray) (mac:ByteArray) (w:World):Prop where
 hw:At T w (1,0) hb 155 [vs,vb,.string mac]
 rs:RowT T w (2,0) 9 1 vs ss.length (strV ss)
 rq:RowT T w (2,1) 9 1 vb bs.length (strV bs)
 rl:RowT T w (3,0) 9 1 vl ls.length (strV ls)
 rr:At T w (4,0) rb 155 [.slice none 0 0,.slice none 0 0,.string ⟨#[]⟩]
 old:∀ g,g<w0.heap.size→T g=(0,0)
 bel:Below w0.heap.size w0 w
section
variable {T:Tags} {w0 w w':World} {hb rb:Nat} {vl vs vb:Value} {ls ss bs:List ByteArray} {mac:ByteArray}
theorem PSt.below (h:PSt T w0 hb rb vl vs vb ls ss bs mac w) (hbe:Below w.heap.size w w'):PSt (fresh T w (9,9)) w0 hb rb vl vs vb ls ss bs mac w':=by
 have hs:Stays T (fresh T w (9,9)) w w' (fun _=>False):=Stays.of_below (9,9) hbe
 exact ⟨h.hw.stays hs id,h.rs.stays hs id,h.rq.stays hs id,h.rl.stays hs id,h.rr.stays hs id,fun g hg=>(hs.tag g (Nat.lt_of_lt_of_le hg h.bel.size)).trans (h.old g hg),h.bel.trans (hbe.mono h.bel.size)⟩
theorem PSt.addS (h:PSt T w0 hb rb vl vs vb ls ss bs mac w) (y:ByteArray) {o:Obj} {v':Value} {w1:World} (hg:(w.alloc o).grownBy w1 vs.ownBlock) (hr:Row w1 0 9 1 v' (ss.length+1) (strV (ss++[y]))) (hat:v'.ownBlock=vs.ownBlock∨∃ g,v'.ownBlock=some g∧(w.alloc o).heap.size≤g):
  PSt (fresh T w (2,0)) w0 hb rb vl v' vb ls (ss++[y]) bs mac (w1.setCell ⟨hb,0,none⟩ v'):=by
 obtain ⟨q1,q2,q3⟩:=append_field (f:=0) h.hw h.rs (by decide) hg hr hat
 exact ⟨q2,by simpa using q3,h.rq.stays q1 (by simp),h.rl.stays q1 (by simp),h.rr.stays q1 (by simp),fun g hg=>(q1.tag g (Nat.lt_of_lt_of_le hg h.bel.size)).trans (h.old g hg),h.bel.trans (q1.below h.bel.size h.old (by simp))⟩
theorem PSt.addB (h:PSt T w0 hb rb vl vs vb ls ss bs mac w) (y:ByteArray) {o:Obj} {v':Value} {w1:World} (hg:(w.alloc o).grownBy w1 vb.ownBlock) (hr:Row w1 0 9 1 v' (bs.length+1) (strV (bs++[y]))) (hat:v'.ownBlock=vb.ownBlock∨∃ g,v'.ownBlock=some g∧(w.alloc o).heap.size≤g):
  PSt (fresh T w (2,1)) w0 hb rb vl vs v' ls ss (bs++[y]) mac (w1.setCell ⟨hb,1,none⟩ v'):=by
 obtain ⟨q1,q2,q3⟩:=append_field (f:=1) h.hw h.rq (by decide) hg hr hat
 exact ⟨q2,h.rs.stays q1 (by simp),by simpa using q3,h.rl.stays q1 (by simp),h.rr.stays q1 (by simp),fun g hg=>(q1.tag g (Nat.lt_of_lt_of_le hg h.bel.size)).trans (h.old g hg),h.bel.trans (q1.below h.bel.size h.old (by simp))⟩
theorem PSt.setM (h:PSt T w0 hb rb vl vs vb ls ss bs mac w) (y:ByteArray):PSt T w0 hb rb vl vs vb ls ss bs y (w.setCell ⟨hb,2,none⟩ (.string y)):=by
 have hs:Stays T T w (w.setCell ⟨hb,2,none⟩ (.string y)) (fun c=>c=(1,0)):=Stays.setCell w hb _ _ h.hw.2
 exact ⟨⟨h.hw.1.setCell_same 2 (.string y),h.hw.2⟩,h.rs.stays hs (by simp),h.rq.stays hs (by simp),h.rl.stays hs (by simp),h.rr.stays hs (by simp),h.old,h.bel.trans (hs.below h.bel.size h.old (by simp))⟩
theorem rowT_up {c:Nat × Nat} {v:Value} {n:Nat} {xs:List Value} (h:RowT T w c 9 1 v n xs) (hc:c≠(0,0)) (ho:∀ g,g<w0.heap.size→T g=(0,0)):Row w w0.heap.size 9 1 v n xs:=by
 obtain ⟨⟨h0,h1⟩,h2⟩:=h
 refine ⟨h0,?_⟩
 rcases h1 with hn | ⟨g,cap,cur,rfl,_,r⟩
 ·exact .inl hn
 ·refine .inr ⟨g,cap,cur,rfl,?_,r⟩
  have ht:=h2 g rfl
  rcases Nat.lt_or_ge g w0.heap.size with hl | hl
  ·rw[ho g hl] at ht;exact absurd ht.symm hc
  ·exact hl
end
theorem infoHead:(Tryz.prog.info? 155).map (·.size)=some 3:=by kernel_rfl
theorem ret_head {fn:Func} (hf:fn.results = #[.cell 2 155,.tmp 3]) (tmps:Array Value) (w:World) (b:Nat) (vs vb:Value) (mac:ByteArray) (hp:tmps.getD 2 undef = .pointer (some ⟨b,0,none⟩)) (hB:Blk w b 155 [vs,vb,.string mac]):
  (results fn tmps).run Tryz.prog w = .ok (.tuple #[.agg #[vs,vb,.string mac],tmps.getD 3 undef]) w:=by
 rw[results_cell_tmp hf,hp]
 simp only[asAddr,Result.andThen,Sem.run_pure]
 rw[run_loadVar_row w b 155 155 #[vs,vb,.string mac] _ _ hB Tryz.underlying155 rfl infoHead]
set_option maxRecDepth 100000 in
set_option maxHeartbeats 3200000 in
theorem headParse_any (t:ByteArray) (w:World) (ht:t.size≤1000000000):
  Calls Tryz.prog 124 #[.string t] w fun e w'=>∃ vs vb,e = .returned (.tuple #[.agg #[vs,vb,.string (Hd.parAns t).1.mac],.int .i64 (Hd.parAns t).2]) ∧
   Row w' w.heap.size 9 1 vs (Hd.parAns t).1.ss.length (strV (Hd.parAns t).1.ss)∧Row w' w.heap.size 9 1 vb (Hd.parAns t).1.bs.length (strV (Hd.parAns t).1.bs)∧Below w.heap.size w w':=by
 obtain ⟨ans,hans⟩:∃ a,Hd.parAns t=a:=⟨_,rfl⟩
 rw[hans]
 unfold Hd.parAns at hans
 have hbA:Below w.heap.size w (w.alloc (.cells #[.slice none 0 0,.slice none 0 0,.string ⟨#[]⟩] 155)):=(Below.refl _ _).alloc (Nat.le_refl _) _
 by_cases hsz:284<t.size
 ·rw[if_pos hsz] at hans
  subst hans
  have z1:(decide ((284:Int)<(t.size:Int)))=true:=by simp;omega
  have HB:=hide hbA
  clear hbA hsz
  go_enter Tryz.func124,Tryz.ntmps124
  go_wp2
  refine bodyPost_ret (ret_head rfl _ _ w.heap.size _ _ _ rfl (Blk.new rfl rfl)) rfl ?_
  exact ⟨_,_,rfl,Row.nil _ _ _ _,Row.nil _ _ _ _,HB.out⟩
 ·rw[if_neg hsz] at hans
  have z1:(decide ((284:Int)<(t.size:Int)))=false:=by simp;omega
  have HANS:=hide hans
  have HCUT:Hid (∀ w,Calls Tryz.prog 181 #[.string t,.int .u8 10] w fun e w'=>∃ v,e = .returned v∧Row w' w.heap.size 9 1 v (Hd.cut t 10).length (strV (Hd.cut t 10))∧Below w.heap.size w w'):=hide (fun w=>headCut_any t 10 w ht)
  have hlen:=Hd.cut_len t 10
  have hpsz:=Hd.cut_size t 10
  have hpd:Hd.parsed t=Hd.lines (Hd.cut t 10) ((Hd.cut t 10).length-2):=rfl
  have HPD:=hide hpd
  have HPS:=hide hpsz
  generalize Hd.cut t 10=LS at *
  obtain ⟨n,hn⟩:∃ n:Nat,LS.length=n:=⟨_,rfl⟩
  rw[hn] at hlen HPD
  have HNN:=hide hn
  have ht2:t.size≤284:=by omega
  clear hans hsz hpsz hpd hn
  go_enter Tryz.func124,Tryz.ntmps124
  go_wp2_with fail
  refine (HCUT.out _).mono ?_
  rintro e w1 ⟨vl,rfl,hrl,hb1⟩
  clear HCUT
  have hP:PSt (fresh (fresh (fresh (fun _=>(0,0)) w (4,0)) (w.alloc (.cells #[.slice none 0 0,.slice none 0 0,.string ⟨#[]⟩] 155)) (3,0)) w1 (1,0)) w w1.heap.size w.heap.size vl (.slice none 0 0) (.slice none 0 0) LS [] [] ⟨#[]⟩ (w1.alloc (.cells #[.slice none 0 0,.slice none 0 0,.string ⟨#[]⟩] 155)):=by
   have s1:Stays (fun _=>(0,0)) (fresh (fun _=>(0,0)) w (4,0)) w (w.alloc (.cells #[.slice none 0 0,.slice none 0 0,.string ⟨#[]⟩] 155)) (fun _=>False):=Stays.of_below (4,0) hbA
   have s2:=Stays.of_below (T:=fresh (fun _=>(0,0)) w (4,0)) (S:=fun _=>False) (3,0) hb1
   have hbC:Below w1.heap.size w1 (w1.alloc (.cells #[.slice none 0 0,.slice none 0 0,.string ⟨#[]⟩] 155)):=(Below.refl _ _).alloc (Nat.le_refl _) _
   have s3:=Stays.of_below (T:=fresh (fresh (fun _=>(0,0)) w (4,0)) (w.alloc (.cells #[.slice none 0 0,.slice none 0 0,.string ⟨#[]⟩] 155)) (3,0)) (S:=fun _=>False) (1,0) hbC
   have r4:At (fresh (fun _=>(0,0)) w (4,0)) (w.alloc (.cells #[.slice none 0 0,.slice none 0 0,.string ⟨#[]⟩] 155)) (4,0) w.heap.size 155 [.slice none 0 0,.slice none 0 0,.string ⟨#[]⟩]:=⟨Blk.new rfl rfl,fresh_new _ _ _ _ (Nat.le_refl _)⟩
   have hrl3:RowT (fresh (fresh (fun _=>(0,0)) w (4,0)) (w.alloc (.cells #[.slice none 0 0,.slice none 0 0,.string ⟨#[]⟩] 155)) (3,0)) w1 (3,0) 9 1 vl LS.length (strV LS):=
    ⟨hrl.mono (Nat.zero_le _),fun g hg=>fresh_new _ _ _ _ (hrl.lt g hg).1⟩
   refine ⟨⟨Blk.new rfl rfl,fresh_new _ _ _ _ (Nat.le_refl _)⟩,RowT.nil _ _ _ _ _,RowT.nil _ _ _ _ _,hrl3.stays s3 id,(r4.stays s2 id).stays s3 id,?_,?_⟩
   ·intro g hg
    have g1:=hbA.size
    have g2:=hb1.size
    rw[fresh_old _ _ _ _ (by omega),fresh_old _ _ _ _ (by omega),fresh_old _ _ _ _ hg]
   ·exact hbA.trans ((hb1.mono hbA.size).trans (hbC.mono (Nat.le_trans hbA.size hb1.size)))
  have HP:=hide hP
  obtain ⟨hb,hhb⟩:∃ b,w1.heap.size=b:=⟨_,rfl⟩
  rw[hhb] at HP
  generalize (fresh (fresh (fresh (fun _=>(0,0)) w (4,0)) (w.alloc (.cells #[.slice none 0 0,.slice none 0 0,.string ⟨#[]⟩] 155)) (3,0)) w1 (1,0))=T0 at *
  obtain ⟨ao,cap,rfl,hc1,hc2⟩:=Row.anyN hrl
  rw[HNN.out] at HP hc1
  rw[HNN.out]
  unfold maxLen at hc2
  clear hP hrl hb1 hbA
  have j1:(n:Int)-1≤9223372036854775807:=by omega
  go_wp2
  clear hhb
  go_loopw [6] (fun i wr=>∃ (k:Nat) (T:Tags) (vs vb:Value),k≤n-2∧i = .int .i64 (k+1:Nat)∧PSt T w hb w.heap.size (.slice ao n cap) vs vb LS (Hd.lines LS k).ss (Hd.lines LS k).bs (Hd.lines LS k).mac wr) (fun i _=>n-(intOf i).toNat)
  case atStart=>exact ⟨0,T0,_,_,Nat.zero_le _,rfl,HP.out⟩
  case round=>
   obtain ⟨k,T,vs,vb,hk,rfl,hP⟩:=hrel
   obtain ⟨I,hI⟩:∃ I:Nat,k+1=I:=⟨_,rfl⟩
   rw[hI]
   by_cases hlt:k<n-2
   ·have jI:(I:Int)<(n:Int)-1:=by omega
    have hIn:I<n:=by omega
    have jIn:(I:Int)<(n:Int):=by omega
    obtain ⟨hl1,hl2⟩:=Hd.lines_len LS k
    have hnx:Hd.lines LS (k+1)=Hd.stepL (Hd.lines LS k) (LS.getD I ⟨#[]⟩):=by rw[←hI];rfl
    have hlsz:=Hd.getD_le HPS.out I
    have hrow:=hP.rl.1
    obtain ⟨g,cap',cur,hv,_,hB,_,_,_,htk⟩:=hrow.open (by rw[HNN.out];omega)
    injection hv with hv1 hv2 hv3
    subst hv1
    clear hv2 hv3
    have cl:wr.cell? ⟨g,I,none⟩=some (.string (LS.getD I ⟨#[]⟩)):=hB.cell (take_at htk (by
     have hIL:I<LS.length:=by rw[HNN.out];exact hIn
     simp[strV,List.getElem?_eq_getElem hIL]))
    obtain ⟨ln,hln⟩:∃ l,LS.getD I ⟨#[]⟩=l:=⟨_,rfl⟩
    rw[hln] at hnx hlsz cl
    have HC2:Hid (∀ w,Calls Tryz.prog 181 #[.string ln,.int .u8 32] w fun e w'=>∃ v,e = .returned v∧Row w' w.heap.size 9 1 v (Hd.cut ln 32).length (strV (Hd.cut ln 32))∧Below w.heap.size w w'):=hide (fun w=>headCut_any ln 32 w (by omega))
    have hwl:=Hd.cut_len ln 32
    have hws:=Hd.cut_size ln 32
    unfold Hd.stepL at hnx
    generalize Hd.cut ln 32=W at *
    have HNX:=hide hnx
    have HP:=hide hP
    have HI:=hide hI
    have HLT:=hide hlt
    have HWS:=hide hws
    obtain ⟨nw,hnw⟩:∃ x:Nat,W.length=x:=⟨_,rfl⟩
    rw[hnw] at hwl HNX
    have HNW:=hide hnw
    generalize Hd.lines LS k=st at *
    clear hnx hrow hB htk hP hI hlt hws hnw hln
    go_wp2_with fail
    refine (HC2.out _).mono ?_
    rintro e w2 ⟨vw,rfl,hrw,hb2⟩
    have P2:=hide (HP.out.below hb2)
    generalize fresh T wr (9,9)=T2 at *
    have HRW:=hide hrw
    obtain ⟨wo,wcap,rfl,hd1,hd2⟩:=Row.anyN hrw
    rw[HNW.out] at hd1 ⊢
    unfold maxLen at hd2
    clear hrw hb2 HC2 cl
    by_cases h4:nw=4
    ·subst h4
     rw[if_pos rfl] at HNX
     obtain ⟨g5,c5,cur5,hv5,_,hB5,_,_,_,htk5⟩:=HRW.out.open (by rw[HNW.out];decide)
     injection hv5 with hv5 _ _
     subst hv5
     have e2:w2.cell? ⟨g5,2,none⟩=some (.string (W.getD 2 ⟨#[]⟩)):=hB5.cell (take_at htk5 (by
      have h2:2<W.length:=by rw[HNW.out];decide
      simp[strV,List.getElem?_eq_getElem h2]))
     have e3:w2.cell? ⟨g5,3,none⟩=some (.string (W.getD 3 ⟨#[]⟩)):=hB5.cell (take_at htk5 (by
      have h3:3<W.length:=by rw[HNW.out];decide
      simp[strV,List.getElem?_eq_getElem h3]))
     have s2:=Hd.getD_le HWS.out 2
     have s3:=Hd.getD_le HWS.out 3
     have hg5:=hB5.lt
     generalize W.getD 2 ⟨#[]⟩=x2 at *
     generalize W.getD 3 ⟨#[]⟩=x3 at *
     have HY2:=hide (fun w=>headBytes_any x2 w (by omega))
     have HY3:=hide (fun w=>headBytes_any x3 w (by omega))
     generalize Hd.byT x2=y2 at *
     generalize Hd.byT x3=y3 at *
     clear hB5 htk5 HRW s2 s3
     go_wp2_with fail
     refine (HY2.out _).mono ?_
     rintro e w3 ⟨rfl,hb3⟩
     have P3:=hide (P2.out.below hb3)
     have e3':=(hb3.cell hg5).trans e3
     generalize fresh T2 w2 (9,9)=T3 at *
     clear hb3 HY2 e2 e3 P2
     go_wp2_with fail
     refine (HY3.out _).mono ?_
     rintro e w4 ⟨rfl,hb4⟩
     have P4:=hide (P3.out.below hb4)
     generalize fresh T3 w3 (9,9)=T4 at *
     clear hb4 HY3 e3' P3
     have c0:=P4.out.hw.1.cell (i:=0) rfl
     have key:=fun (w1:World) (o:Obj) (hg:(w4.alloc o).grownBy w1 vs.ownBlock)=>(P4.out.hw.1.alloc o).grown hg (fun e=>absurd (P4.out.rs.2 hb e.symm) (by rw[P4.out.hw.2];decide))
     have HK:=hide key
     clear key
     go_wp2_with (first | (at_builtin;refine wpList_append_strB rfl (.tmp 43) (.tmp 45) rfl 0 _ st.ss.length st.ss rfl (P4.out.rs.1.alloc _) w4.heap.size _ rfl (World.cell?_alloc_at _ _ _ _ rfl) ?_ ?_ ?_;omega;exact Nat.zero_le _;intro v1 w5 hr1 hg1 hat1;obtain ⟨g9,cap9,cur9,rfl,_⟩:=hr1.open (Nat.succ_pos _);have b1:=HK.out w5 _ hg1;have d0:=b1.cell (i:=0) rfl;have d1:=b1.cell (i:=1) rfl;have f1:=b1.frozen) | (at_builtin;refine Hid.out ?_))
     refine hide ?_
     have P5:=hide (P4.out.addS y2 hg1 hr1 hat1)
     have hsz6:(w5.setCell ⟨hb,0,none⟩ (.slice (some ⟨g9,0,none⟩) (st.ss.length+1) cap9)).heap.size=w5.heap.size:=by
      show (w5.heap.modify _ _).size=_
      simp
     generalize w5.setCell ⟨hb,0,none⟩ (.slice (some ⟨g9,0,none⟩) (st.ss.length+1) cap9)=w6 at *
     generalize fresh T4 w4 (2,0)=T6 at *
     clear P4 HK c0 d0 d1 f1 b1 hg1 hr1 hat1
     rw[←hsz6]
     clear hsz6
     have key:=fun (w1:World) (o:Obj) (hg:(w6.alloc o).grownBy w1 vb.ownBlock)=>(P5.out.hw.1.alloc o).grown hg (fun e=>absurd (P5.out.rq.2 hb e.symm) (by rw[P5.out.hw.2];decide))
     have HK:=hide key
     clear key
     go_wp2_with (at_builtin;refine wpList_append_strB rfl (.tmp 49) (.tmp 51) rfl 0 _ st.bs.length st.bs rfl (P5.out.rq.1.alloc _) w6.heap.size _ rfl (World.cell?_alloc_at _ _ _ _ rfl) ?_ ?_ ?_;omega;exact Nat.zero_le _;intro v7 w7 hr7 hg7 hat7;obtain ⟨g8,cap8,cur8,rfl,_⟩:=hr7.open (Nat.succ_pos _);have b1:=HK.out w7 _ hg7;have d1:=b1.cell (i:=1) rfl;have f1:=b1.frozen)
     go_roundw
     case rel=>
      have hlt:=HLT.out
      have hi:=HI.out
      have h7:=P5.out.addB y3 hg7 hr7 hat7
      rw[show st.ss++[y2]=(Hd.lines LS (k+1)).ss by rw[HNX.out],show st.bs++[y3]=(Hd.lines LS (k+1)).bs by rw[HNX.out],show st.mac=(Hd.lines LS (k+1)).mac by rw[HNX.out]] at h7
      exact ⟨k+1,_,_,_,by omega,congrArg (Value.int .i64) (by omega),h7⟩
     case measure=>simp[intOf];omega
    ·have z4:((nw:Int)==4)=false:=beq_eq_false_iff_ne.2 (by omega)
     rw[if_neg h4] at HNX
     by_cases h2:nw=2
     ·subst h2
      rw[if_pos rfl] at HNX
      obtain ⟨g5,c5,cur5,hv5,_,hB5,_,_,_,htk5⟩:=HRW.out.open (by rw[HNW.out];decide)
      injection hv5 with hv5 _ _
      subst hv5
      have e1:w2.cell? ⟨g5,1,none⟩=some (.string (W.getD 1 ⟨#[]⟩)):=hB5.cell (take_at htk5 (by
       have h1:1<W.length:=by rw[HNW.out];decide
       simp[strV,List.getElem?_eq_getElem h1]))
      have s1:=Hd.getD_le HWS.out 1
      generalize W.getD 1 ⟨#[]⟩=x1 at *
      have HY1:=hide (fun w=>headBytes_any x1 w (by omega))
      generalize Hd.byT x1=y1 at *
      clear hB5 htk5 HRW s1 h4
      go_wp2_with fail
      refine (HY1.out _).mono ?_
      rintro e w3 ⟨rfl,hb3⟩
      have P3:=hide (P2.out.below hb3)
      generalize fresh T2 w2 (9,9)=T3 at *
      have c2:=P3.out.hw.1.cell (i:=2) rfl
      have f2:=P3.out.hw.1.frozen
      clear hb3 HY1 e1 P2
      go_wp2
      go_roundw
      case rel=>
       have hlt:=HLT.out
       have hi:=HI.out
       have h7:=P3.out.setM y1
       rw[show st.ss=(Hd.lines LS (k+1)).ss by rw[HNX.out],show st.bs=(Hd.lines LS (k+1)).bs by rw[HNX.out],show y1=(Hd.lines LS (k+1)).mac by rw[HNX.out]] at h7
       rw[show y1=(Hd.lines LS (k+1)).mac by rw[HNX.out]]
       exact ⟨k+1,_,_,_,by omega,congrArg (Value.int .i64) (by omega),h7⟩
      case measure=>simp[intOf];omega
     ·have z2:((nw:Int)==2)=false:=beq_eq_false_iff_ne.2 (by omega)
      rw[if_neg h2] at HNX
      clear h4 h2 HRW
      go_wp2
      go_roundw
      case rel=>
       have hlt:=HLT.out
       have hi:=HI.out
       have h7:=P2.out
       rw[show st=Hd.lines LS (k+1) by rw[HNX.out]] at h7
       exact ⟨k+1,_,_,_,by omega,congrArg (Value.int .i64) (by omega),h7⟩
      case measure=>simp[intOf];omega
   ·have jI:¬ ((I:Int)<(n:Int)-1):=by omega
    have hkn:Hd.parsed t=Hd.lines LS k:=by rw[HPD.out];congr 1;omega
    obtain ⟨hl1,hl2⟩:=Hd.lines_len LS k
    have hans:=HANS.out
    rw[hkn] at hans
    generalize Hd.lines LS k=st at *
    have HPR:=hide (headPrint_any vs vb st.mac st.ss st.bs wr (Row.strs hP.rs.1) (Row.strs hP.rq.1) (by omega) (by omega))
    have c0:=hP.hw.1.cell (i:=0) rfl
    have c1:=hP.hw.1.cell (i:=1) rfl
    have c2:=hP.hw.1.cell (i:=2) rfl
    have HP:=hide hP
    have HA:=hide hans
    clear hP hans hkn hk hI hlt HANS HPD
    go_wp2_with fail
    refine HPR.out.mono ?_
    obtain ⟨pt,hpt⟩:∃ p,Hd.prAns st.ss st.bs st.mac=p:=⟨_,rfl⟩
    rw[hpt] at HA ⊢
    rintro e w9 ⟨rfl,hb9⟩
    have P9:=hide (HP.out.below hb9)
    generalize fresh T wr (9,9)=T9 at *
    clear hb9 HPR c0 c1 c2 hpt HP
    have c0:=P9.out.hw.1.cell (i:=0) rfl
    have c1:=P9.out.hw.1.cell (i:=1) rfl
    have c2:=P9.out.hw.1.cell (i:=2) rfl
    obtain ⟨so,sc,rfl,hs1,hs2⟩:=Row.anyN P9.out.rs.1
    obtain ⟨bo,bc,rfl,hb1,hb2⟩:=Row.anyN P9.out.rq.1
    have hone:(#[.slice so st.ss.length sc,.slice bo st.bs.length bc,.string st.mac]:Array Value).all (·.oneCell')=true:=by simp[Value.oneCell']
    have hone0:(#[.slice none 0 0,.slice none 0 0,.string ⟨#[]⟩]:Array Value).all (·.oneCell')=true:=by simp[Value.oneCell']
    have HONE:=hide hone
    have HONE0:=hide hone0
    clear hone hone0
    by_cases hok:pt=(t.data.toList,0)
    ·have ha:=HA.out
     rw[if_pos hok] at ha
     subst ha
     subst hok
     have htt:(⟨t.data.toList.toArray⟩:ByteArray)=t:=ba_ext rfl
     rw[htt]
     clear htt
     go_wp2_with (refine wpList_store_blk rfl 155 (.tmp 2) (.tmp 76) rfl w.heap.size 0 #[.slice so st.ss.length sc,.slice bo st.bs.length bc,.string st.mac] rfl rfl infoHead HONE.out 155 [.slice none 0 0,.slice none 0 0,.string ⟨#[]⟩] P9.out.rr.1 (Nat.le_refl 3) ?_;intro wz hBz hGz)
     have hBz2:Blk wz w.heap.size 155 [.slice so st.ss.length sc,.slice bo st.bs.length bc,.string st.mac]:=hBz
     have sz:=Stays.of_grown (T:=T9) (S:=fun x=>x=(4,0)) (9,9) w.heap.size hGz P9.out.rr.2
     have hold:∀ g,g<w.heap.size→fresh T9 w9 (9,9) g=(0,0):=fun g hg=>(sz.tag g (Nat.lt_of_lt_of_le hg P9.out.bel.size)).trans (P9.out.old g hg)
     refine bodyPost_ret (ret_head rfl _ _ w.heap.size _ _ _ rfl hBz2) rfl ?_
     exact ⟨_,_,rfl,rowT_up (P9.out.rs.stays sz (by simp)) (by decide) hold,rowT_up (P9.out.rq.stays sz (by simp)) (by decide) hold,P9.out.bel.trans (sz.below P9.out.bel.size P9.out.old (by simp))⟩
    ·have ha:=HA.out
     rw[if_neg hok] at ha
     subst ha
     obtain ⟨pl,pe⟩:=pt
     by_cases hpe:pe=0
     ·subst hpe
      have z2:((⟨pl.toArray⟩:ByteArray).toList==t.toList)=false:=by
       rw[beq_eq_false_iff_ne,ByteArray.toList_eq,ByteArray.toList_eq]
       exact fun e=>hok (by rw[←e])
      generalize (⟨pl.toArray⟩:ByteArray)=pa at *
      clear hok HA
      go_wp2_with (refine wpList_store_blk rfl 155 (.tmp 2) (.tmp 75) rfl w.heap.size 0 #[.slice none 0 0,.slice none 0 0,.string ⟨#[]⟩] rfl rfl infoHead HONE0.out 155 [.slice none 0 0,.slice none 0 0,.string ⟨#[]⟩] P9.out.rr.1 (Nat.le_refl 3) ?_;intro wz hBz hGz)
      have hBz2:Blk wz w.heap.size 155 [.slice none 0 0,.slice none 0 0,.string ⟨#[]⟩]:=hBz
      have sz:=Stays.of_grown (T:=T9) (S:=fun x=>x=(4,0)) (9,9) w.heap.size hGz P9.out.rr.2
      refine bodyPost_ret (ret_head rfl _ _ w.heap.size _ _ _ rfl hBz2) rfl ?_
      exact ⟨_,_,rfl,Row.nil _ _ _ _,Row.nil _ _ _ _,P9.out.bel.trans (sz.below P9.out.bel.size P9.out.old (by simp))⟩
     ·have z2:(pe != 0)=true:=by rw[bne_iff_ne];exact hpe
      generalize (⟨pl.toArray⟩:ByteArray)=pa at *
      clear hok HA hpe
      go_wp2_with (refine wpList_store_blk rfl 155 (.tmp 2) (.tmp 75) rfl w.heap.size 0 #[.slice none 0 0,.slice none 0 0,.string ⟨#[]⟩] rfl rfl infoHead HONE0.out 155 [.slice none 0 0,.slice none 0 0,.string ⟨#[]⟩] P9.out.rr.1 (Nat.le_refl 3) ?_;intro wz hBz hGz)
      have hBz2:Blk wz w.heap.size 155 [.slice none 0 0,.slice none 0 0,.string ⟨#[]⟩]:=hBz
      have sz:=Stays.of_grown (T:=T9) (S:=fun x=>x=(4,0)) (9,9) w.heap.size hGz P9.out.rr.2
      refine bodyPost_ret (ret_head rfl _ _ w.heap.size _ _ _ rfl hBz2) rfl ?_
      exact ⟨_,_,rfl,Row.nil _ _ _ _,Row.nil _ _ _ _,P9.out.bel.trans (sz.below P9.out.bel.size P9.out.old (by simp))⟩
namespace Ref
def inWrap:List UInt8:=[119,114,97,112]
def inHead:List UInt8:=[104,101,97,100,101,114]
def inBody:List UInt8:=[112,97,121,108,111,97,100]
def keyL (ikm salt info:List UInt8):List UInt8:=(expO (macL salt ikm) info 1).take 32
theorem keyL_len (ikm salt info:List UInt8):(keyL ikm salt info).length=32:=by
 unfold keyL
 rw[List.length_take,expO_len]
 rfl
def macH (key:List UInt8) (ss bs:List ByteArray):List UInt8:=macL (keyL key [] inHead) (Hd.body ss bs)
end Ref
set_option maxRecDepth 100000 in
set_option maxHeartbeats 800000 in
theorem refMac_any (key:ByteArray) (B:Nat) (vs vb:Value) (mac:ByteArray) (ss bs:List ByteArray) (w:World) (hB:Blk w B 155 [vs,vb,.string mac]) (h1:Strs w vs ss) (h2:Strs w vb bs) (hl:bs.length=ss.length) (hn:ss.length≤1000) (hz1:∀ x ∈ ss,x.size≤1000) (hz2:∀ x ∈ bs,x.size≤1000) (hk:key.size≤1090000000):
  Calls Tryz.prog 193 #[.string key,.pointer (some ⟨B,0,none⟩)] w fun e w'=>e = .returned (.string ⟨(Ref.macH key.data.toList ss bs).toArray⟩)∧Below w.heap.size w w':=by
 have HK:=hide (fun w=>refKey_any key ⟨#[]⟩ ⟨#[104,101,97,100,101,114]⟩ w hk (by decide) (by decide))
 have HKV:=hide (show Ref.keyL key.data.toList [] Ref.inHead=(expO (macL (⟨#[]⟩:ByteArray).data.toList key.data.toList) (⟨#[104,101,97,100,101,114]⟩:ByteArray).data.toList 1).take 32 from rfl)
 have HB:=hide (fun (w':World) (hb:Below w.heap.size w w')=>headBody_any B vs vb mac ss bs w' (hB.below hb hB.lt) (h1.after hb) (h2.after hb) hl hn hz1 hz2)
 have hkl:(⟨(Ref.keyL key.data.toList [] Ref.inHead).toArray⟩:ByteArray).size≤1090000000:=by rw[two_size,Ref.keyL_len];decide
 have hbl:(⟨(Hd.body ss bs).toArray⟩:ByteArray).size≤1090000000:=by
  rw[two_size]
  unfold Hd.body
  have:=Hd.bodyP_len ss bs hz1 hz2 ss.length
  rw[List.length_append]
  show _+3≤_
  omega
 have HM:=hide (fun w=>refHmac_any ⟨(Ref.keyL key.data.toList [] Ref.inHead).toArray⟩ ⟨(Hd.body ss bs).toArray⟩ w hkl hbl)
 rw[two_toList,two_toList] at HM
 rw[←HKV.out] at HK
 have HV:=hide (show Ref.macH key.data.toList ss bs=macL (Ref.keyL key.data.toList [] Ref.inHead) (Hd.body ss bs) from rfl)
 rw[HV.out]
 generalize macL (Ref.keyL key.data.toList [] Ref.inHead) (Hd.body ss bs)=MM at *
 generalize (⟨(Ref.keyL key.data.toList [] Ref.inHead).toArray⟩:ByteArray)=kk at *
 generalize (⟨(Hd.body ss bs).toArray⟩:ByteArray)=bb at *
 clear HV HKV hkl hbl hB h1 h2 hl hn hz1 hz2 hk
 go_enter Tryz.func193,Tryz.ntmps193
 go_wp2_with fail
 refine (HK.out _).mono ?_
 rintro e w1 ⟨rfl,be1⟩
 have BE1:=hide be1
 clear HK be1
 go_wp2_with fail
 refine (HB.out _ BE1.out).mono ?_
 rintro e w2 ⟨rfl,be2⟩
 have BE2:=hide (BE1.out.trans (be2.mono BE1.out.size))
 clear HB be2 BE1
 go_wp2_with fail
 refine (HM.out _).mono ?_
 rintro e w3 ⟨rfl,be3⟩
 have BE3:=hide (BE2.out.trans (be3.mono BE2.out.size))
 clear HM be3 BE2
 go_wp2
 go_ret
 exact ⟨rfl,BE3.out⟩
theorem u32V_len (l:List Nat):(u32V l).length=l.length:=by simp[u32V]
theorem u32V_get (l:List Nat) (i:Nat) (h:i<l.length):(u32V l)[i]? = some (.int .u32 ((l.getD i 0:Nat):Int)):=by
 simp[u32V,List.getD,h]
theorem u32V_put (l:List Nat) (i x:Nat):(u32V l).set i (.int .u32 ((x:Nat):Int))=u32V (l.set i x):=by
 unfold u32V
 rw[List.map_set]
theorem u8V_len (l:List UInt8):(u8V l).length=l.length:=by simp[u8V]
theorem u8V_one (l:List UInt8):∀ v ∈ u8V l,v.oneCell'=true:=by
 intro v hv
 obtain ⟨x,_,rfl⟩:=List.mem_map.1 hv
 rfl
theorem wpList_load_row {P:Program} {ops:Array Oper} {rest:List Oper} {op:Oper} {a:Act} {w:World} {Q:Exit→Act→World→Prop} (hgd:op.guard=none) (ty:TypeId) (x:Operand) (ho:op.op = .load ty x)
  (b:Nat) (hx:a.eval x = .pointer (some ⟨b,0,none⟩)) (n:Nat) (e:TypeId) (hu:P.underlying ty=some (.array n e)) (hi:(P.info? ty).map (·.size)=some n) (cs:List Value) (t:TypeId) (hb:Blk w b t cs) (hl:cs.length=n)
  (h:wpList P ops Q rest (a.put op.dst (.agg cs.toArray)) w):wpList P ops Q (op::rest) a w:=
 wpList_load_mid hgd ty x ho b 0 hx cs (.array n e) hb.rangeAll hu rfl (by rw[hl];exact hi) h
theorem wpList_store_row {P:Program} {ops:Array Oper} {rest:List Oper} {op:Oper} {a:Act} {w:World} {Q:Exit→Act→World→Prop} (hgd:op.guard=none) (ty:TypeId) (x y:Operand) (ho:op.op = .store ty x y)
  (b:Nat) (hx:a.eval x = .pointer (some ⟨b,0,none⟩)) (n:Nat) (hi:(P.info? ty).map (·.size)=some n) (cs:List Value) (hy:a.eval y = .agg cs.toArray) (hl:cs.length=n) (h1:∀ v ∈ cs,v.oneCell'=true) (old:List Value) (t:TypeId) (hb:Blk w b t old) (hol:old.length=n)
  (h:∀ w',Blk w' b t cs→w.grownBy w' (some b)→wpList P ops Q rest (a.put op.dst undef) w'):wpList P ops Q (op::rest) a w:=
 wpList_store_blk hgd ty x y ho b 0 cs.toArray hx hy (by rw[hi];simp[hl]) (all_oneCell_toArray h1) t old hb (by simp[hl,hol])
  fun w' h1 h2=>h w' (by rw[laidOver_all _ _ (by simp[hl,hol])] at h1;exact h1) h2
theorem ret_rowB {P:Program} {fn:Func} {R:Ending→World→Prop} {a:Act} {w:World} {p:Tmp} {ty:TypeId} (h:fn.results = #[.cell p ty]) (b:Nat) (hp:a.tmps.getD p undef = .pointer (some ⟨b,0,none⟩))
  (n:Nat) (e:TypeId) (hu:P.underlying ty=some (.array n e)) (hi:(P.info? ty).map (·.size)=some n) (cs:List Value) (t:TypeId) (hb:Blk w b t cs) (hl:cs.length=n) (hdf:a.defers=[])
  (hR:R (.returned (.agg cs.toArray)) w):bodyPost P fn R .ret a w:=
 ret_row h b 0 hp cs (.array n e) hb.rangeAll hu rfl (by rw[hl];exact hi) hdf hR
theorem Row.zero {w:World} {base g:Nat} {e:TypeId} (hb:base≤g) (h:Blk w g e []):Row w base e 1 (.slice (some ⟨g,0,none⟩) 0 0) 0 []:=
 ⟨rfl,.inr ⟨g,0,[],rfl,hb,h.marked,Nat.le_refl _,by decide,rfl,rfl⟩⟩
theorem wpList_stop {P:Program} {ops:Array Oper} {rest:List Oper} {op:Oper} {a:Act} {w:World} {Q:Exit→Act→World→Prop} (x:Op) (_:op.op=x) (h:Hid (wpList P ops Q (op::rest) a w)):wpList P ops Q (op::rest) a w:=h
theorem wpList_at {P:Program} {ops:Array Oper} {rest:List Oper} {op:Oper} {a:Act} {w:World} {Q:Exit→Act→World→Prop} (x:Op) (_:op.op=x) (h:wpList P ops Q (op::rest) a w):wpList P ops Q (op::rest) a w:=h
theorem wpList_letterW {P:Program} {ops:Array Oper} {l:List Oper} {a:Act} {w:World} {Q:Exit→Act→World→Prop} (F:World→Prop) (hF:F w) (h:∀ w',F w'→wpList P ops Q l a w'):Hid (wpList P ops Q l a w):=h w hF
theorem or_rotl_int (v n:Nat) (hv:v<4294967296) (hn:n≤32):
  bits .or .u32 ((v:Int)*2 ^ n%4294967296) ((v:Int)/2 ^ (32-n))=(Cha.rotl v n:Nat):=by
 have e1:((v:Int)/2 ^ (32-n))=((v/2 ^ (32-n):Nat):Int):=by rw[Int.natCast_ediv,Int.natCast_pow];rfl
 have e2:((v:Int)*2 ^ n%4294967296)=((v*2 ^ n%4294967296:Nat):Int):=by
  rw[←cast_mulmod,Int.natCast_pow];rfl
 have hp:2 ^ (32-n)*2 ^ n=4294967296:=by rw[←Nat.pow_add,show 32-n+n=32 by omega]
 have hq:0<2 ^ (32-n):=Nat.two_pow_pos _
 have h1:v/2 ^ (32-n)<2 ^ n:=(Nat.div_lt_iff_lt_mul hq).2 (by rw[Nat.mul_comm,hp];exact hv)
 have h3:v*2 ^ n%4294967296=v%2 ^ (32-n)*2 ^ n:=by rw[←hp,Nat.mul_mod_mul_right]
 have h4:v/2 ^ (32-n)<4294967296:=Nat.lt_of_le_of_lt (Nat.div_le_self _ _) hv
 rw[e1,e2,u32_or_nat _ _ (Nat.mod_lt _ (by omega)) h4,h3,or_shift _ _ _ h1]
 rfl
set_option maxHeartbeats 400000 in
theorem turnLeft_any (v n:Nat) (w:World) (hv:v<4294967296) (hn:n≤32):
  Calls Tryz.prog 217 #[.int .u32 v,.int .u32 n] w fun e w'=>e = .returned (.int .u32 (Cha.rotl v n:Nat))∧w'=w:=by
 go_enter Tryz.func217,Tryz.ntmps217
 go_wp2
 go_ret
 exact ⟨ret_int (or_rotl_int v n hv hn),rfl⟩
theorem sumc (a b:Nat):((a:Int)+(b:Int))%4294967296=(((a+b)%4294967296:Nat):Int):=by omega
theorem info16:(Tryz.prog.info? 145).map (·.size)=some 16:=by kernel_rfl
theorem zeros32_len (n:Nat):(zeros32 n).length=n:=by simp[zeros32]
theorem half_nums (a b c d m n:Nat) (hm:m≤32) (hn:n≤32) (_:a<4294967296) (hb:b<4294967296) (_:c<4294967296) (hd:d<4294967296):
  ∃ a1 x1 d1 c1 x2 b1:Nat,(⟨a1,b1,c1,d1⟩:Cha.Q4)=Cha.Q4.half ⟨a,b,c,d⟩ m n∧((a:Int)+(b:Int))%4294967296=(a1:Int)∧bits .xor .u32 (d:Int) (a1:Int)=(x1:Int)∧d1=Cha.rotl x1 m∧((c:Int)+(d1:Int))%4294967296=(c1:Int)∧bits .xor .u32 (b:Int) (c1:Int)=(x2:Int)∧b1=Cha.rotl x2 n ∧
   x1<4294967296∧x2<4294967296∧a1<4294967296∧b1<4294967296∧c1<4294967296∧d1<4294967296:=by
 have q (x:Nat):x%4294967296<4294967296:=Nat.mod_lt _ (by decide)
 have x1:=Nat.xor_lt_two_pow (n:=32) hd (q (a+b))
 have x2:=Nat.xor_lt_two_pow (n:=32) hb (q (c+Cha.rotl (d ^^^ (a+b)%4294967296) m))
 exact ⟨_,_,_,_,_,_,rfl,sumc a b,u32_xor_nat _ _ hd (q _),rfl,sumc _ _,u32_xor_nat _ _ hb (q _),rfl,x1,x2,q _,Cha.rotl_lt _ _ hn x2,q _,Cha.rotl_lt _ _ hm x1⟩
set_option maxRecDepth 100000 in
set_option maxHeartbeats 1600000 in
theorem quarter_any (l:List Nat) (i j k m:Nat) (w:World) (hl:Cha.Ok l) (hi:i<16) (hj:j<16) (hk:k<16) (hm:m<16)
  (h1:i≠j) (h2:i≠k) (h3:i≠m) (h4:j≠k) (h5:j≠m) (h6:k≠m):
  Calls Tryz.prog 211 #[.agg (u32V l).toArray,.int .i64 (i:Nat),.int .i64 (j:Nat),.int .i64 (k:Nat),.int .i64 (m:Nat)] w fun e w'=>e = .returned (.agg (u32V (Cha.quarter l i j k m)).toArray)∧Below w.heap.size w w':=by
 have hq:=Cha.quarter_eq l i j k m hl.1 hi hj hk hm h1 h2 h3 h4 h5 h6
 obtain ⟨a1,x1,d1,c1,x2,b1,e1,s1,t1,r1,s2,t2,r2,y1,y2,ba,bb,bc,bd⟩:=half_nums (l.getD i 0) (l.getD j 0) (l.getD k 0) (l.getD m 0) 16 12 (by decide) (by decide) (hl.at i hi) (hl.at j hj) (hl.at k hk) (hl.at m hm)
 obtain ⟨a2,x3,d2,c2,x4,b2,e2,s3,t3,r3,s4,t4,r4,y3,y4,_,_,_,_⟩:=half_nums a1 b1 c1 d1 8 7 (by decide) (by decide) ba bb bc bd
 unfold Cha.q4 at hq
 rw[←e1,←e2] at hq
 have hlen:=hl.1
 have HQ:=hide hq
 have HL:=hide hlen
 have T1:=hide (fun w=>turnLeft_any x1 16 w y1 (by decide))
 have T2:=hide (fun w=>turnLeft_any x2 12 w y2 (by decide))
 have T3:=hide (fun w=>turnLeft_any x3 8 w y3 (by decide))
 have T4:=hide (fun w=>turnLeft_any x4 7 w y4 (by decide))
 rw[←r1] at T1
 rw[←r2] at T2
 rw[←r3] at T3
 rw[←r4] at T4
 have G1:=u32V_get l i (by omega)
 have G2:=u32V_get l j (by omega)
 have G3:=u32V_get l k (by omega)
 have G4:=u32V_get l m (by omega)
 generalize l.getD i 0=va at *
 generalize l.getD j 0=vb at *
 generalize l.getD k 0=vc at *
 generalize l.getD m 0=vd at *
 clear hq e1 e2 r1 r2 r3 r4 y1 y2 y3 y4 ba bb bc bd hl hlen h1 h2 h3 h4 h5 h6
 have ji:(i:Int)<16:=by omega
 have jj:(j:Int)<16:=by omega
 have jk:(k:Int)<16:=by omega
 have jm:(m:Int)<16:=by omega
 go_enter Tryz.func211,Tryz.ntmps211
 go_wp2_with (with_reducible refine wpList_stop (.indexAddr 145 (.tmp 5) (.tmp 15)) rfl ?_)
 refine wpList_letterW (fun w'=>Blk w' w.heap.size 145 (u32V l)∧Blk w' (w.heap.size+1) 145 (u32V (zeros32 16))∧Below w.heap.size w w') ⟨(Blk.new rfl rfl).alloc _,Blk.new (by simp) rfl,((Below.refl _ _).alloc (Nat.le_refl _) _).alloc (by simp) _⟩ ?_
 rintro w1 ⟨hB0,hB1,hbe⟩
 have g1:=hB0.cell G1
 have g2:=hB0.cell G2
 have g3:=hB0.cell G3
 have g4:=hB0.cell G4
 have f:=hB0.frozen
 go_wp2_with fail
 refine (T1.out _).mono ?_
 rintro e w' ⟨rfl,rfl⟩
 go_wp2_with fail
 refine (T2.out _).mono ?_
 rintro e w' ⟨rfl,rfl⟩
 go_wp2_with fail
 refine (T3.out _).mono ?_
 rintro e w' ⟨rfl,rfl⟩
 go_wp2_with fail
 refine (T4.out _).mono ?_
 rintro e w' ⟨rfl,rfl⟩
 clear T1 T2 T3 T4
 go_wp2_with (with_reducible refine wpList_stop (.indexAddr 145 (.tmp 5) (.tmp 58)) rfl ?_)
 clear g1 g2 g3 g4 G1 G2 G3 G4 s1 s2 s3 s4 t1 t2 t3 t4
 refine wpList_letterW (fun w'=>Blk w' w.heap.size 145 (u32V (l.set i a2))∧Blk w' (w.heap.size+1) 145 (u32V (zeros32 16))∧Below w.heap.size w w') ⟨by have h:=hB0.setCell_same i (.int .u32 (a2:Nat));rw[u32V_put] at h;exact h,hB1.setCell_other _ _ (by simp),hbe.setCell (by simp) _⟩ ?_
 clear hB0 hB1 hbe f
 rintro w2 ⟨hB0,hB1,hbe⟩
 have f:=hB0.frozen
 have g2:=hB0.cell (u32V_get (l.set i a2) j (by have:=HL.out;simp;omega))
 go_wp2_with (with_reducible refine wpList_stop (.indexAddr 145 (.tmp 5) (.tmp 61)) rfl ?_)
 refine wpList_letterW (fun w'=>Blk w' w.heap.size 145 (u32V ((l.set i a2).set j b2))∧Blk w' (w.heap.size+1) 145 (u32V (zeros32 16))∧Below w.heap.size w w') ⟨by have h:=hB0.setCell_same j (.int .u32 (b2:Nat));rw[u32V_put] at h;exact h,hB1.setCell_other _ _ (by simp),hbe.setCell (by simp) _⟩ ?_
 clear hB0 hB1 hbe f g2
 rintro w3 ⟨hB0,hB1,hbe⟩
 have f:=hB0.frozen
 have g3:=hB0.cell (u32V_get ((l.set i a2).set j b2) k (by have:=HL.out;simp;omega))
 go_wp2_with (with_reducible refine wpList_stop (.indexAddr 145 (.tmp 5) (.tmp 64)) rfl ?_)
 refine wpList_letterW (fun w'=>Blk w' w.heap.size 145 (u32V (((l.set i a2).set j b2).set k c2))∧Blk w' (w.heap.size+1) 145 (u32V (zeros32 16))∧Below w.heap.size w w') ⟨by have h:=hB0.setCell_same k (.int .u32 (c2:Nat));rw[u32V_put] at h;exact h,hB1.setCell_other _ _ (by simp),hbe.setCell (by simp) _⟩ ?_
 clear hB0 hB1 hbe f g3
 rintro w4 ⟨hB0,hB1,hbe⟩
 have f:=hB0.frozen
 have g4:=hB0.cell (u32V_get (((l.set i a2).set j b2).set k c2) m (by have:=HL.out;simp;omega))
 go_wp2_with (with_reducible refine wpList_stop (.load 145 (.tmp 5)) rfl ?_)
 refine wpList_letterW (fun w'=>Blk w' w.heap.size 145 (u32V ((((l.set i a2).set j b2).set k c2).set m d2))∧Blk w' (w.heap.size+1) 145 (u32V (zeros32 16))∧Below w.heap.size w w') ⟨by have h:=hB0.setCell_same m (.int .u32 (d2:Nat));rw[u32V_put] at h;exact h,hB1.setCell_other _ _ (by simp),hbe.setCell (by simp) _⟩ ?_
 clear hB0 hB1 hbe f g4
 rintro w5 ⟨hB0,hB1,hbe⟩
 have f:=hB0.frozen
 have LQ:=hide (show (u32V ((((l.set i a2).set j b2).set k c2).set m d2)).length=16 by rw[u32V_len];have:=HL.out;simpa using this)
 have LZ:=hide ((u32V_len (zeros32 16)).trans (zeros32_len 16))
 generalize (((l.set i a2).set j b2).set k c2).set m d2=l2 at *
 go_wp2_with (first | ((with_reducible refine wpList_at (.load 145 (.tmp 5)) rfl ?_);refine wpList_load_row rfl 145 (.tmp 5) rfl w.heap.size rfl 16 130 Tryz.underlying145 info16 (u32V l2) 145 hB0 LQ.out ?_) | ((with_reducible refine wpList_at (.store 145 (.tmp 10) (.tmp 67)) rfl ?_);refine wpList_store_row rfl 145 (.tmp 10) (.tmp 67) rfl (w.heap.size+1) rfl 16 info16 (u32V l2) rfl LQ.out (u32V_one _) (u32V (zeros32 16)) 145 hB1 LZ.out ?_;intro w9 hB9 hG9))
 exact ret_rowB Tryz.results211 (w.heap.size+1) rfl 16 130 Tryz.underlying145 info16 (u32V l2) 145 hB9 LQ.out rfl ⟨by rw[HQ.out],hbe.trans (RowKit.Below.of_grown hG9 (by omega) hbe.size)⟩
end Go.Proofs.YtmjekklgefdolaaGreatDoor
