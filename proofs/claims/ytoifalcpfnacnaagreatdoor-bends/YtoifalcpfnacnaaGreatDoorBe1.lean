import Derived.BigQuiet
import Derived.KernelRfl
import Derived.Laws.ResultCell
import Derived.Laws.Rows
import Derived.Test.YtoifalcpfnacnaaGreatDoorProg
import Derived.WalkKit
import Derived.WalkSpells
import Derived.WalkLawsBesides
import Derived.Laws.BitsAllLaws
import Derived.Deep.MidRow
import Derived.WalkSmall
import Derived.Deep.QuietTactic
import Derived.Deep.RegionLaw
import Derived.RegionTactic
import Derived.Laws.CopyOwn
import Derived.Deep.RegionHeld3
import Derived.ArgAppend
import Derived.Maps.AppendAt
import Derived.Laws.IdiomStrings
import Derived.Laws.AppendOwnNone
import Derived.Laws.MakeOwn
namespace Sha
def rotr (v n:Nat):Nat:=v/2 ^ n+v%2 ^ n*2 ^ (32-n)
def s0 (v:Nat):Nat:=rotr v 7 ^^^ rotr v 18 ^^^ v/2 ^ 3
def s1 (v:Nat):Nat:=rotr v 17 ^^^ rotr v 19 ^^^ v/2 ^ 10
def b1 (e:Nat):Nat:=rotr e 6 ^^^ rotr e 11 ^^^ rotr e 25
def b0 (a:Nat):Nat:=rotr a 2 ^^^ rotr a 13 ^^^ rotr a 22
def ch (x y z:Nat):Nat:=(x &&& y) ^^^ ((4294967295-x) &&& z)
def maj (x y z:Nat):Nat:=(x &&& y) ^^^ (x &&& z) ^^^ (y &&& z)
theorem rotr_lt (v n:Nat) (hn:n≤32) (hv:v<4294967296):rotr v n<4294967296:=by
 unfold rotr
 have hp:2 ^ n*2 ^ (32-n)=4294967296:=by rw[←Nat.pow_add,show n+(32-n)=32 by omega]
 have h1:v/2 ^ n<2 ^ (32-n):=by
  apply Nat.div_lt_of_lt_mul;omega
 have h2:v%2 ^ n<2 ^ n:=Nat.mod_lt _ (Nat.two_pow_pos n)
 have h3:(v%2 ^ n+1)*2 ^ (32-n)≤2 ^ n*2 ^ (32-n):=Nat.mul_le_mul_right _ h2
 rw[Nat.add_mul,Nat.one_mul] at h3
 omega
theorem or_rot (v n:Nat) (hn:n≤32) (hv:v<4294967296):v/2 ^ n ||| v*2 ^ (32-n)%4294967296=rotr v n:=by
 unfold rotr
 have hp:2 ^ n*2 ^ (32-n)=4294967296:=by rw[←Nat.pow_add,show n+(32-n)=32 by omega]
 have h1:v/2 ^ n<2 ^ (32-n):=by
  apply Nat.div_lt_of_lt_mul;omega
 have h4:v*2 ^ (32-n)%4294967296=v%2 ^ n*2 ^ (32-n):=by
  rw[←hp,Nat.mul_mod_mul_right]
 rw[h4,←Nat.shiftLeft_eq,Nat.or_comm,←Nat.shiftLeft_add_eq_or_of_lt h1,Nat.add_comm]
theorem xor_lt {a b:Nat} (ha:a<4294967296) (hb:b<4294967296):a ^^^ b<4294967296:=Nat.xor_lt_two_pow (n:=32) ha hb
theorem and_lt {a b:Nat} (ha:a<4294967296):a &&& b<4294967296:=Nat.lt_of_le_of_lt Nat.and_le_left ha
theorem div_lt {a:Nat} (n:Nat) (ha:a<4294967296):a/2 ^ n<4294967296:=Nat.lt_of_le_of_lt (Nat.div_le_self _ _) ha
theorem tb_not (x i:Nat) (hx:x<4294967296):(4294967295-x).testBit i=(decide (i<32) && !x.testBit i):=by
 have h:=Nat.testBit_two_pow_sub_succ (n:=32) (x:=x) (by simpa using hx) i
 rw[←h];congr 1;omega
theorem ch_or (x y z:Nat) (hx:x<4294967296):(x &&& y) ||| ((4294967295-x) &&& z)=ch x y z:=by
 unfold ch
 apply Nat.eq_of_testBit_eq
 intro i
 simp only[Nat.testBit_or,Nat.testBit_and,Nat.testBit_xor,tb_not x i hx]
 cases x.testBit i <;> cases y.testBit i <;> cases z.testBit i <;> simp
theorem maj_or (x y z:Nat):((x &&& y) ||| (x &&& z)) ||| (y &&& z)=maj x y z:=by
 unfold maj
 apply Nat.eq_of_testBit_eq
 intro i
 simp only[Nat.testBit_or,Nat.testBit_and,Nat.testBit_xor]
 cases x.testBit i <;> cases y.testBit i <;> cases z.testBit i <;> rfl
def Kt:List Nat:=[1116352408,1899447441,3049323471,3921009573,961987163,1508970993,2453635748,2870763221,3624381080,310598401,607225278,1426881987,1925078388,2162078206,2614888103,3248222580,3835390401,4022224774,264347078,604807628,770255983,1249150122,1555081692,1996064986,2554220882,2821834349,2952996808,3210313671,3336571891,3584528711,113926993,338241895,666307205,773529912,1294757372,1396182291,1695183700,1986661051,2177026350,2456956037,2730485921,2820302411,3259730800,3345764771,3516065817,3600352804,4094571909,275423344,430227734,506948616,659060556,883997877,958139571,1322822218,1537002063,1747873779,1955562222,2024104815,2227730452,2361852424,2428436474,2756734187,3204031479,3329325298]
structure St where
 a:Nat
 b:Nat
 c:Nat
 d:Nat
 e:Nat
 f:Nat
 g:Nat
 h:Nat
def H0:St:=⟨1779033703,3144134277,1013904242,2773480762,1359893119,2600822924,528734635,1541459225⟩
def St.list (s:St):List Nat:=[s.a,s.b,s.c,s.d,s.e,s.f,s.g,s.h]
structure St.ok (s:St):Prop where
 a:s.a<4294967296
 b:s.b<4294967296
 c:s.c<4294967296
 d:s.d<4294967296
 e:s.e<4294967296
 f:s.f<4294967296
 g:s.g<4294967296
 h:s.h<4294967296
def by8 (b:List UInt8) (i:Nat):Nat:=(b.getD i 0).toNat
theorem by8_lt (b:List UInt8) (i:Nat):by8 b i<256:=UInt8.toNat_lt _
def be (b:List UInt8) (t:Nat):Nat:=((by8 b (4*t)*256+by8 b (4*t+1))*256+by8 b (4*t+2))*256+by8 b (4*t+3)
theorem be_lt (b:List UInt8) (t:Nat):be b t<4294967296:=by
 unfold be
 have h1:=by8_lt b (4*t)
 have h2:=by8_lt b (4*t+1)
 have h3:=by8_lt b (4*t+2)
 have h4:=by8_lt b (4*t+3)
 omega
def wAt (l:List Nat) (i:Nat):Nat:=l.getD i 0
def schedStep (b:List UInt8) (l:List Nat) (t:Nat):Nat:=
 if t<16 then be b t else (s1 (wAt l (t-2))+wAt l (t-7)+s0 (wAt l (t-15))+wAt l (t-16))%4294967296
def sched (b:List UInt8):Nat→List Nat
 | 0=>[]
 | t+1=>sched b t++[schedStep b (sched b t) t]
theorem sched_len (b:List UInt8) (t:Nat):(sched b t).length=t:=by
 induction t with
 | zero=>rfl
 | succ t ih=>simp[sched,ih]
theorem schedStep_lt (b:List UInt8) (l:List Nat) (t:Nat):schedStep b l t<4294967296:=by
 unfold schedStep
 split
 ·exact be_lt b t
 ·exact Nat.mod_lt _ (by omega)
theorem sched_lt (b:List UInt8) (t:Nat):∀ x ∈ sched b t,x<4294967296:=by
 induction t with
 | zero=>intro x hx;cases hx
 | succ t ih=>
  intro x hx
  rcases List.mem_append.1 hx with h | h
  ·exact ih x h
  ·rw[List.mem_singleton.1 h];exact schedStep_lt _ _ _
theorem wAt_sched_lt (b:List UInt8) (t i:Nat):wAt (sched b t) i<4294967296:=by
 unfold wAt
 rw[List.getD_eq_getElem?_getD]
 cases h:(sched b t)[i]? with
 | none=>simp
 | some x=>simpa using sched_lt b t x (List.mem_of_getElem? h)
def rnd (k w:Nat) (s:St):St:=
 ⟨((s.h+b1 s.e+ch s.e s.f s.g+k+w)%4294967296+b0 s.a+maj s.a s.b s.c)%4294967296,s.a,s.b,s.c,
 (s.d+(s.h+b1 s.e+ch s.e s.f s.g+k+w)%4294967296)%4294967296,s.e,s.f,s.g⟩
theorem rnd_ok (k w:Nat) (s:St) (h:s.ok):(rnd k w s).ok:=
 ⟨Nat.mod_lt _ (by omega),h.a,h.b,h.c,Nat.mod_lt _ (by omega),h.e,h.f,h.g⟩
def rnds (ws:List Nat) (s:St):Nat→St
 | 0=>s
 | t+1=>rnd (wAt Kt t) (wAt ws t) (rnds ws s t)
theorem rnds_ok (ws:List Nat) (s:St) (t:Nat) (h:s.ok):(rnds ws s t).ok:=by
 induction t with
 | zero=>exact h
 | succ t ih=>exact rnd_ok _ _ _ ih
def addSt (h r:St):St:=
 ⟨(h.a+r.a)%4294967296,(h.b+r.b)%4294967296,(h.c+r.c)%4294967296,(h.d+r.d)%4294967296,
 (h.e+r.e)%4294967296,(h.f+r.f)%4294967296,(h.g+r.g)%4294967296,(h.h+r.h)%4294967296⟩
theorem addSt_ok (h r:St):(addSt h r).ok:=
 ⟨Nat.mod_lt _ (by omega),Nat.mod_lt _ (by omega),Nat.mod_lt _ (by omega),Nat.mod_lt _ (by omega),
 Nat.mod_lt _ (by omega),Nat.mod_lt _ (by omega),Nat.mod_lt _ (by omega),Nat.mod_lt _ (by omega)⟩
def comp (h:St) (b:List UInt8):St:=addSt h (rnds (sched b 64) h 64)
theorem H0_ok:H0.ok:=⟨by decide,by decide,by decide,by decide,by decide,by decide,by decide,by decide⟩
def comps (l:List UInt8):Nat→St
 | 0=>H0
 | n+1=>comp (comps l n) ((l.drop (64*n)).take 64)
theorem comps_ok (l:List UInt8) (n:Nat):(comps l n).ok:=by
 cases n with
 | zero=>exact H0_ok
 | succ n=>exact addSt_ok _ _
theorem comps_append (l m:List UInt8) (n:Nat) (h:64*n≤l.length):comps (l++m) n=comps l n:=by
 induction n with
 | zero=>rfl
 | succ n ih=>
  have e:((l++m).drop (64*n)).take 64=(l.drop (64*n)).take 64:=by
   rw[List.drop_append_of_le_length (by omega),List.take_append_of_le_length (by simp;omega)]
  show comp (comps (l++m) n) (((l++m).drop (64*n)).take 64)=comp (comps l n) ((l.drop (64*n)).take 64)
  rw[ih (by omega),e]
def be64 (n:Nat):List UInt8:=
 [UInt8.ofNat (n/2 ^ 56),UInt8.ofNat (n/2 ^ 48),UInt8.ofNat (n/2 ^ 40),UInt8.ofNat (n/2 ^ 32),
 UInt8.ofNat (n/2 ^ 24),UInt8.ofNat (n/2 ^ 16),UInt8.ofNat (n/2 ^ 8),UInt8.ofNat n]
def zeros (n:Nat):List UInt8:=List.replicate n 0
def gap (n:Nat):Nat:=(119-n%64)%64
def padded (m:List UInt8):List UInt8:=m++[128]++zeros (gap m.length)++be64 (8*m.length)
def be4 (n:Nat):List UInt8:=[UInt8.ofNat (n/2 ^ 24),UInt8.ofNat (n/2 ^ 16),UInt8.ofNat (n/2 ^ 8),UInt8.ofNat n]
def out (s:St):List UInt8:=be4 s.a++be4 s.b++be4 s.c++be4 s.d++be4 s.e++be4 s.f++be4 s.g++be4 s.h
def sum (m:List UInt8):List UInt8:=out (comps (padded m) ((padded m).length/64))
theorem sum_len (m:List UInt8):(sum m).length=32:=rfl
end Sha
namespace Go.Proofs.YtoifalcpfnacnaaGreatDoor
open Go.RowKit
theorem ret_int {k:IntKind} {a b:Int} (h:a=b):Ending.returned (.int k a) = .returned (.int k b):=by rw[h]
theorem cast_mulmod (v p:Nat):((v:Int)*(p:Int)%4294967296)=((v*p%4294967296:Nat):Int):=by
 rw[Int.natCast_emod,Int.natCast_mul];rfl
theorem or_rot_int (v n:Nat) (hv:v<4294967296) (hn:n≤32):
  bits .or .u32 ((v:Int)/2 ^ n) ((v:Int)*2 ^ (32-n)%4294967296)=(Sha.rotr v n:Nat):=by
 have e1:((v:Int)/2 ^ n)=((v/2 ^ n:Nat):Int):=by rw[Int.natCast_ediv,Int.natCast_pow];rfl
 have e2:((v:Int)*2 ^ (32-n)%4294967296)=((v*2 ^ (32-n)%4294967296:Nat):Int):=by
  rw[←cast_mulmod,Int.natCast_pow];rfl
 rw[e1,e2,u32_or_nat _ _ (Sha.div_lt n hv) (Nat.mod_lt _ (by omega)),Sha.or_rot v n hn hv]
theorem xor3_int (a b c:Nat) (ha:a<4294967296) (hb:b<4294967296) (hc:c<4294967296):
  bits .xor .u32 (bits .xor .u32 (a:Int) (b:Int)) (c:Int)=((a ^^^ b ^^^ c:Nat):Int):=by
 rw[u32_xor_nat a b ha hb,u32_xor_nat _ c (Sha.xor_lt ha hb) hc]
set_option maxHeartbeats 400000 in
theorem turnRight_any (v n:Nat) (w:World) (hv:v<4294967296) (hn:n≤32):
  Calls Tryz.prog 144 #[.int .u32 v,.int .u32 n] w fun e w'=>e = .returned (.int .u32 (Sha.rotr v n:Nat))∧w'=w:=by
 go_enter Tryz.func144,Tryz.ntmps144
 go_wp2
 go_ret
 exact ⟨ret_int (or_rot_int v n hv hn),rfl⟩
set_option maxHeartbeats 400000 in
theorem smallS_any (v:Nat) (w:World) (hv:v<4294967296):
  Calls Tryz.prog 138 #[.int .u32 v] w fun e w'=>e = .returned (.int .u32 (Sha.s0 v:Nat))∧w'=w:=by
 go_enter Tryz.func138,Tryz.ntmps138
 go_wp2_with fail
 refine (turnRight_any v 7 _ hv (by omega)).mono ?_
 rintro e w' ⟨rfl,rfl⟩
 go_wp2_with fail
 refine (turnRight_any v 18 _ hv (by omega)).mono ?_
 rintro e w' ⟨rfl,rfl⟩
 go_wp2
 go_ret
 exact ⟨ret_int (xor3_int _ _ _ (Sha.rotr_lt _ _ (by omega) hv) (Sha.rotr_lt _ _ (by omega) hv) (Sha.div_lt 3 hv)),rfl⟩
set_option maxHeartbeats 400000 in
theorem smallZ_any (v:Nat) (w:World) (hv:v<4294967296):
  Calls Tryz.prog 139 #[.int .u32 v] w fun e w'=>e = .returned (.int .u32 (Sha.s1 v:Nat))∧w'=w:=by
 go_enter Tryz.func139,Tryz.ntmps139
 go_wp2_with fail
 refine (turnRight_any v 17 _ hv (by omega)).mono ?_
 rintro e w' ⟨rfl,rfl⟩
 go_wp2_with fail
 refine (turnRight_any v 19 _ hv (by omega)).mono ?_
 rintro e w' ⟨rfl,rfl⟩
 go_wp2
 go_ret
 exact ⟨ret_int (xor3_int _ _ _ (Sha.rotr_lt _ _ (by omega) hv) (Sha.rotr_lt _ _ (by omega) hv) (Sha.div_lt 10 hv)),rfl⟩
set_option maxHeartbeats 400000 in
theorem bigS_any (v:Nat) (w:World) (hv:v<4294967296):
  Calls Tryz.prog 140 #[.int .u32 v] w fun e w'=>e = .returned (.int .u32 (Sha.b1 v:Nat))∧w'=w:=by
 go_enter Tryz.func140,Tryz.ntmps140
 go_wp2_with fail
 refine (turnRight_any v 6 _ hv (by omega)).mono ?_
 rintro e w' ⟨rfl,rfl⟩
 go_wp2_with fail
 refine (turnRight_any v 11 _ hv (by omega)).mono ?_
 rintro e w' ⟨rfl,rfl⟩
 go_wp2_with fail
 refine (turnRight_any v 25 _ hv (by omega)).mono ?_
 rintro e w' ⟨rfl,rfl⟩
 go_wp2
 go_ret
 exact ⟨ret_int (xor3_int _ _ _ (Sha.rotr_lt _ _ (by omega) hv) (Sha.rotr_lt _ _ (by omega) hv) (Sha.rotr_lt _ _ (by omega) hv)),rfl⟩
set_option maxHeartbeats 400000 in
theorem bigZ_any (v:Nat) (w:World) (hv:v<4294967296):
  Calls Tryz.prog 142 #[.int .u32 v] w fun e w'=>e = .returned (.int .u32 (Sha.b0 v:Nat))∧w'=w:=by
 go_enter Tryz.func142,Tryz.ntmps142
 go_wp2_with fail
 refine (turnRight_any v 2 _ hv (by omega)).mono ?_
 rintro e w' ⟨rfl,rfl⟩
 go_wp2_with fail
 refine (turnRight_any v 13 _ hv (by omega)).mono ?_
 rintro e w' ⟨rfl,rfl⟩
 go_wp2_with fail
 refine (turnRight_any v 22 _ hv (by omega)).mono ?_
 rintro e w' ⟨rfl,rfl⟩
 go_wp2
 go_ret
 exact ⟨ret_int (xor3_int _ _ _ (Sha.rotr_lt _ _ (by omega) hv) (Sha.rotr_lt _ _ (by omega) hv) (Sha.rotr_lt _ _ (by omega) hv)),rfl⟩
theorem xor_max (x:Nat) (hx:x<4294967296):4294967295 ^^^ x=4294967295-x:=by
 apply Nat.eq_of_testBit_eq
 intro i
 rw[Nat.testBit_xor,Sha.tb_not x i hx,show (4294967295:Nat)=2 ^ 32-1 from rfl,Nat.testBit_two_pow_sub_one]
 by_cases hi:i<32
 ·simp[hi]
 ·have:x.testBit i=false:=Nat.testBit_lt_two_pow (Nat.lt_of_lt_of_le hx (Nat.pow_le_pow_right (by omega:2 > 0) (by omega:32≤i)))
  simp[hi,this]
theorem ch_int (x y z:Nat) (hx:x<4294967296) (hy:y<4294967296) (hz:z<4294967296):
  bits .or .u32 (bits .and .u32 (x:Int) (y:Int)) (bits .and .u32 (bits .xor .u32 IntKind.u32.max (x:Int)) (z:Int))=(Sha.ch x y z:Nat):=by
 have hm:IntKind.u32.max=((4294967295:Nat):Int):=rfl
 rw[hm,u32_xor_nat _ _ (by omega) hx,xor_max x hx,u32_and_nat x y hx hy,u32_and_nat _ z (by omega) hz,
  u32_or_nat _ _ (Sha.and_lt hx) (Sha.and_lt (by omega)),Sha.ch_or x y z hx]
theorem maj_int (x y z:Nat) (hx:x<4294967296) (hy:y<4294967296) (hz:z<4294967296):
  bits .or .u32 (bits .or .u32 (bits .and .u32 (x:Int) (y:Int)) (bits .and .u32 (x:Int) (z:Int))) (bits .and .u32 (y:Int) (z:Int))=(Sha.maj x y z:Nat):=by
 rw[u32_and_nat x y hx hy,u32_and_nat x z hx hz,u32_and_nat y z hy hz,u32_or_nat _ _ (Sha.and_lt hx) (Sha.and_lt hx),
  u32_or_nat _ _ (Nat.or_lt_two_pow (n:=32) (Sha.and_lt hx) (Sha.and_lt hx)) (Sha.and_lt hy),Sha.maj_or x y z]
set_option maxHeartbeats 400000 in
theorem choice_any (x y z:Nat) (w:World) (hx:x<4294967296) (hy:y<4294967296) (hz:z<4294967296):
  Calls Tryz.prog 141 #[.int .u32 x,.int .u32 y,.int .u32 z] w fun e w'=>e = .returned (.int .u32 (Sha.ch x y z:Nat))∧w'=w:=by
 go_enter Tryz.func141,Tryz.ntmps141
 go_wp2
 go_ret
 exact ⟨ret_int (ch_int x y z hx hy hz),rfl⟩
set_option maxHeartbeats 400000 in
theorem majority_any (x y z:Nat) (w:World) (hx:x<4294967296) (hy:y<4294967296) (hz:z<4294967296):
  Calls Tryz.prog 143 #[.int .u32 x,.int .u32 y,.int .u32 z] w fun e w'=>e = .returned (.int .u32 (Sha.maj x y z:Nat))∧w'=w:=by
 go_enter Tryz.func143,Tryz.ntmps143
 go_wp2
 go_ret
 exact ⟨ret_int (maj_int x y z hx hy hz),rfl⟩
end Go.Proofs.YtoifalcpfnacnaaGreatDoor
namespace Go
open Go.RowKit
def Blk (w:World) (b:Nat) (t:TypeId) (cs:List Value):Prop:=w.heap[b]? = some (.cells cs.toArray t (0,0))
theorem int_c {k:IntKind} {a b:Int} (h:a=b):Value.int k a = .int k b:=by rw[h]
theorem hide {p:Prop} (h:p):Hid p:=h
theorem Blk.lt {w:World} {b:Nat} {t:TypeId} {cs:List Value} (h:Blk w b t cs):b<w.heap.size:=(Array.getElem?_eq_some_iff.1 h).1
theorem Blk.cell {w:World} {b:Nat} {t:TypeId} {cs:List Value} (h:Blk w b t cs) {i:Nat} {v:Value} (hi:cs[i]? = some v):w.cell? ⟨b,i,none⟩=some v:=by
 rw[cell_of_row w b i cs.toArray t (0,0) h];simpa using hi
theorem Blk.frozen {w:World} {b:Nat} {t:TypeId} {cs:List Value} (h:Blk w b t cs) (i:Nat):w.frozen? ⟨b,i,none⟩=false:=by
 unfold Blk at h
 simp[World.frozen?,h]
theorem Blk.alloc {w:World} {b:Nat} {t:TypeId} {cs:List Value} (h:Blk w b t cs) (o:Obj):Blk (w.alloc o) b t cs:=by
 unfold Blk;rw[Below.heap_alloc w o b h.lt];exact h
theorem Blk.new {w:World} {t:TypeId} {arr:Array Value} {n:Nat} {cs:List Value} (hn:n=w.heap.size) (hc:arr=cs.toArray):Blk (w.alloc (.cells arr t)) n t cs:=by
 subst hn hc
 unfold Blk;rw[heap_alloc_new]
theorem Blk.drew {w:World} {b:Nat} {t:TypeId} {cs:List Value} (h:Blk w b t cs):Blk w.drew b t cs:=h
theorem Blk.drewN {w:World} {b:Nat} {t:TypeId} {cs:List Value} (h:Blk w b t cs) (n:Nat):Blk (w.drewN n) b t cs:=h
theorem Blk.below {w w':World} {b:Nat} {t:TypeId} {cs:List Value} (h:Blk w b t cs) {B:Nat} (hb:Below B w w') (hB:b<B):Blk w' b t cs:=by
 unfold Blk;rw[hb.block b hB];exact h
theorem Blk.grown {w w':World} {b:Nat} {t:TypeId} {cs:List Value} (h:Blk w b t cs) {row:Option Nat} (hb:w.grownBy w' row) (hB:some b≠row):Blk w' b t cs:=by
 unfold Blk;rw[hb.block b h.lt hB];exact h
theorem Blk.setCell_same {w:World} {b:Nat} {t:TypeId} {cs:List Value} (h:Blk w b t cs) (i:Nat) (v:Value):Blk (w.setCell ⟨b,i,none⟩ v) b t (cs.set i v):=by
 unfold Blk at h ⊢
 unfold World.setCell
 rw[Array.getElem?_modify,if_pos rfl,h]
 simp
theorem Blk.setCell_other {w:World} {b:Nat} {t:TypeId} {cs:List Value} (h:Blk w b t cs) (a:Addr) (v:Value) (hne:b≠a.block):Blk (w.setCell a v) b t cs:=by
 unfold Blk
 rw[Below.heap_setCell w a v b hne];exact h
theorem Blk.range {w:World} {b:Nat} {t:TypeId} {cs:List Value} (h:Blk w b t cs) (o n:Nat):w.rangeAt b o ((cs.drop o).take n):=fun j v hv=>by
 refine h.cell ?_
 rw[List.getElem?_take] at hv
 split at hv
 ·rw[List.getElem?_drop] at hv;exact hv
 ·cases hv
theorem Blk.rangeAll {w:World} {b:Nat} {t:TypeId} {cs:List Value} (h:Blk w b t cs):w.rangeAt b 0 cs:=fun j v hv=>by
 rw[Nat.zero_add];exact h.cell hv
theorem Blk.there {w:World} {b:Nat} {t:TypeId} {cs:List Value} (h:Blk w b t cs) (o n:Nat) (hn:o+n≤cs.length):w.there b o n:=fun j hj=>
 ⟨by rw[h.cell (i:=o+j) (List.getElem?_eq_getElem (by omega))];rfl,h.frozen _⟩
def laidOver (cs:List Value) (o:Nat) (vs:List Value):List Value:=cs.take o++vs++cs.drop (o+vs.length)
theorem Blk.setCells_same {b:Nat} {t:TypeId}:∀ (vs:List Value) (cs:List Value) (o:Nat) (w:World),Blk w b t cs→o+vs.length≤cs.length→Blk (w.setCells b o vs) b t (laidOver cs o vs)
 | [],cs,o,w,h,_=>by simpa [World.setCells,laidOver] using h
 | v::r,cs,o,w,h,hl=>by
  rw[World.setCells]
  have h1:=Blk.setCells_same r (cs.set o v) (o+1) _ (h.setCell_same o v) (by simp at hl ⊢;omega)
  have e:laidOver (cs.set o v) (o+1) r=laidOver cs o (v::r):=by
   simp only[List.length_cons] at hl
   unfold laidOver
   rw[List.take_succ_eq_append_getElem (by simp;omega),List.getElem_set_self,List.take_set_of_le (Nat.le_refl _),List.drop_set_of_lt (by omega)]
   simp only[List.length_cons,List.append_assoc,List.cons_append,List.nil_append]
   rw[show o+1+r.length=o+(r.length+1) by omega]
  rw[←e];exact h1
theorem Below.setCells {B:Nat} {a:World} (b:Nat) (hb:B≤b):∀ (vs:List Value) (o:Nat) (w:World),Below B a w→Below B a (w.setCells b o vs)
 | [],_,_,h=>h
 | v::r,o,w,h=>by rw[World.setCells];exact Below.setCells b hb r (o+1) _ (h.setCell (by exact hb) _)
theorem results_cell {fn:Func} {p:Tmp} {ty:TypeId} (h:fn.results = #[.cell p ty]) (tmps:Array Value) (P:Program) (w:World):
  (results fn tmps).run P w=((asAddr (tmps.getD p undef)).run P w).andThen fun a w₁=>(loadVar ty a).run P w₁:=by
 simp only[results,h]
 simp[Sem.run_bind,Result.andThen]
theorem ret_row {P:Program} {fn:Func} {R:Ending→World→Prop} {a:Act} {w:World} {p:Tmp} {ty:TypeId} (h:fn.results = #[.cell p ty]) (b o:Nat) (hp:a.tmps.getD p undef = .pointer (some ⟨b,o,none⟩))
  (cs:List Value) (d:TypeDesc) (hc:w.rangeAt b o cs) (hu:P.underlying ty=some d) (hd:d.isRow=true) (hi:(P.info? ty).map (·.size)=some cs.length) (hdf:a.defers=[])
  (hR:R (.returned (.agg cs.toArray)) w):bodyPost P fn R .ret a w:=
 bodyPost_ret (v:=.agg cs.toArray) (by rw[results_cell h,hp];simp[asAddr,run_loadVar_mid w b o ty cs d hc hu hd hi]) hdf hR
theorem cell_other (w:World) (a:Addr) (v:Value) (x:Addr) (h:x.block≠a.block):(w.setCell a v).drew.cell? x=w.cell? x:=by
 show (w.setCell a v).cell? x=_
 exact World.cell?_of_block (Below.heap_setCell w a v x.block h)
theorem cell_off (w:World) (b i:Nat) (v:Value) (j:Nat) (h:i≠j):(w.setCell ⟨b,i,none⟩ v).drew.cell? ⟨b,j,none⟩=w.cell? ⟨b,j,none⟩:=by
 show (w.setCell ⟨b,i,none⟩ v).cell? ⟨b,j,none⟩=_
 exact World.cell?_setCell_other _ _ _ _ (fun e=>h (congrArg Addr.off e))
end Go
namespace Go
open Go.RowKit
theorem RowKit.Below.grownBy {w w':World} (h:Below w.heap.size w w') (row:Option Nat):w.grownBy w' row:=⟨h.os,h.tape,h.output,h.size,fun k hk _=>h.block k hk⟩
theorem World.grownBy.drew {a b:World} {row:Option Nat} (h:a.grownBy b row):a.grownBy b.drew row:=⟨h.os,h.tape,h.output,h.size,h.block⟩
theorem World.grownBy.drewN {a b:World} {row:Option Nat} (h:a.grownBy b row) (n:Nat):a.grownBy (b.drewN n) row:=⟨h.os,h.tape,h.output,h.size,h.block⟩
theorem World.grownBy.setCell {a w:World} {b:Nat} (h:a.grownBy w (some b)) (i:Nat) (v:Value):a.grownBy (w.setCell ⟨b,i,none⟩ v) (some b):=
 h.trans ⟨rfl,rfl,rfl,by simp[World.setCell],fun k _ hr=>Below.heap_setCell w ⟨b,i,none⟩ v k (fun e=>hr (by rw[e]))⟩
theorem World.grownBy.setCells {a:World} {b:Nat}:∀ (vs:List Value) (o:Nat) (w:World),a.grownBy w (some b)→a.grownBy (w.setCells b o vs) (some b)
 | [],_,_,h=>h
 | v::r,o,w,h=>by rw[World.setCells];exact World.grownBy.setCells r (o+1) _ (h.setCell o v)
theorem World.grownBy.alloc {a w:World} {row:Option Nat} (h:a.grownBy w row) (o:Obj):a.grownBy (w.alloc o) row:=
 h.trans (World.grownBy_alloc w o row)
theorem World.grownBy.none {w w':World} (h:w.grownBy w' none):Below w.heap.size w w':=⟨h.os,h.tape,h.output,h.size,fun k hk=>h.block k hk (by simp)⟩
theorem RowKit.Below.of_grown {B:Nat} {w w':World} {b:Nat} (h:w.grownBy w' (some b)) (hB:B≤b) (hs:B≤w.heap.size):Below B w w':=
 ⟨h.os,h.tape,h.output,h.size,fun k hk=>h.block k (by omega) (by simp;omega)⟩
theorem World.rangeAt.below {w w':World} {b o:Nat} {cs:List Value} (h:w.rangeAt b o cs) {B:Nat} (hb:Below B w w') (hB:b<B):w'.rangeAt b o cs:=
 fun j v hv=>(hb.cell (show b<B from hB)).trans (h j v hv)
theorem World.there.below {w w':World} {b o n:Nat} (h:w.there b o n) {B:Nat} (hb:Below B w w') (hB:b<B):w'.there b o n:=
 fun j hj=>⟨by rw[hb.cell (show b<B from hB)];exact (h j hj).1,by rw[hb.frozen (show b<B from hB)];exact (h j hj).2⟩
theorem wpList_store_blk {P:Program} {ops:Array Oper} {rest:List Oper} {op:Oper} {a:Act} {w:World} {Q:Exit→Act→World→Prop} (hgd:op.guard=none) (ty:TypeId) (x y:Operand) (ho:op.op = .store ty x y)
  (b o:Nat) (cells:Array Value) (hx:a.eval x = .pointer (some ⟨b,o,none⟩)) (hy:a.eval y = .agg cells) (hi:(P.info? ty).map (·.size)=some cells.size) (h1:cells.all (·.oneCell')=true)
  (t:TypeId) (old:List Value) (hb:Blk w b t old) (hlen:o+cells.size≤old.length)
  (h:∀ w',Blk w' b t (laidOver old o cells.toList)→w.grownBy w' (some b)→wpList P ops Q rest (a.put op.dst undef) w'):wpList P ops Q (op::rest) a w:=
 wpList_store_mid hgd ty x y ho b o cells hx hy (hb.there o _ hlen) hi h1
  (h _ (Blk.setCells_same _ _ _ _ hb (by simpa using hlen)) (World.grownBy.setCells _ _ _ (World.grownBy.refl w _)))
theorem laidOver_all (old vs:List Value) (h:old.length=vs.length):laidOver old 0 vs=vs:=by
 unfold laidOver
 rw[Nat.zero_add,List.take_zero,List.nil_append,List.drop_eq_nil_of_le (by omega),List.append_nil]
theorem World.grownBy.new {a w w':World} {row:Option Nat} {o:Obj} (h:a.grownBy w row) (k:(w.alloc o).grownBy w' (some w.heap.size)):a.grownBy w' row:=
 ⟨k.os.trans h.os,k.tape.trans h.tape,k.output.trans h.output,by have:=h.size;have:=k.size;simp at this;omega,
 fun i hi hr=>by
  have hs:=h.size
  rw[k.block i (by simp;omega) (by simp;omega),Below.heap_alloc w o i (by omega)]
  exact h.block i hi hr⟩
theorem step_load_mid {P:Program} {ops:Array Oper} {o:Oper} {a:Act} {w:World} {K:Act→World→Prop} {Q:Exit→Act→World→Prop} {E:Prop} (hg:o.guard=none)
  (ty:TypeId) (x:Operand) (ho:o.op = .load ty x) (b off:Nat) (hx:a.eval x = .pointer (some ⟨b,off,none⟩)) (cs:List Value) (d:TypeDesc) (hc:w.rangeAt b off cs)
  (hu:P.underlying ty=some d) (hd:d.isRow=true) (hi:(P.info? ty).map (·.size)=some cs.length) (hK:K (a.put o.dst (.agg cs.toArray)) w):
  if Region.wanted o (yielded ops a.tmps)=true then Oper.wp P o a w K Q else E:=by
 rw[if_pos (by simp[Region.wanted,hg])]
 exact wp_load_mid ty x ho b off hx cs d hc hu hd hi hK
theorem step_store_blk {P:Program} {ops:Array Oper} {op:Oper} {a:Act} {w:World} {K:Act→World→Prop} {Q:Exit→Act→World→Prop} {E:Prop} (hg:op.guard=none)
  (ty:TypeId) (x y:Operand) (ho:op.op = .store ty x y) (b o:Nat) (cells:Array Value) (hx:a.eval x = .pointer (some ⟨b,o,none⟩)) (hy:a.eval y = .agg cells)
  (hi:(P.info? ty).map (·.size)=some cells.size) (h1:cells.all (·.oneCell')=true) (t:TypeId) (old:List Value) (hb:Blk w b t old) (hlen:o+cells.size≤old.length)
  (hK:∀ w',Blk w' b t (laidOver old o cells.toList)→w.grownBy w' (some b)→K (a.put op.dst undef) w'):
  if Region.wanted op (yielded ops a.tmps)=true then Oper.wp P op a w K Q else E:=by
 rw[if_pos (by simp[Region.wanted,hg])]
 exact wp_store_mid ty x y ho b o cells hx hy (hb.there o _ hlen) hi h1 (hK _ (Blk.setCells_same _ _ _ _ hb (by simpa using hlen)) (World.grownBy.setCells _ _ _ (World.grownBy.refl w _)))
end Go
namespace Go.Proofs.YtoifalcpfnacnaaGreatDoor
open Go.RowKit
def i64V (l:List Nat):List Value:=l.map fun x:Nat=>Value.int .i64 ((x:Nat):Int)
theorem infoInt:(Tryz.prog.info? 3).map (fun i=>(i.zero,i.size,i.bytes))=some (some (.int .i64 0),1,8):=by kernel_rfl
end Go.Proofs.YtoifalcpfnacnaaGreatDoor
namespace Go
open Go.RowKit
theorem Act.eval_same (a:Act) (t:Tmp) (v:Value) (h:t<a.tmps.size):(a.put (some t) v).eval (.tmp t)=v:=by
 simp[Act.put,Act.eval,h]
theorem Act.eval_other (a:Act) (t d:Tmp) (v:Value) (h:d≠t):(a.put (some d) v).eval (.tmp t)=a.eval (.tmp t):=by
 simp only[Act.put,Act.eval,Array.getD_eq_getD_getElem?]
 rw[Array.getElem?_setIfInBounds_ne h]
theorem Act.put_size (a:Act) (d:Option Tmp) (v:Value):(a.put d v).tmps.size=a.tmps.size:=by
 cases d <;> simp[Act.put]
theorem Act.put_defers' (a:Act) (d:Option Tmp) (v:Value):(a.put d v).defers=a.defers:=by cases d <;> rfl
theorem wp_letterW {P:Program} {c:Code} {Q:Exit→Act→World→Prop} {a:Act} {w:World} (F:World→Prop) (hF:F w) (h:∀ w',F w'→c.wp P Q a w'):c.wp P Q a w:=h w hF
theorem wp_letter2 {P:Program} {c:Code} {Q:Exit→Act→World→Prop} {a:Act} {w:World} (t u:Tmp)
  (h:∀ A:Act,A.eval (.tmp t)=a.eval (.tmp t)→A.eval (.tmp u)=a.eval (.tmp u)→A.tmps.size=a.tmps.size→A.defers=a.defers→c.wp P Q A w):c.wp P Q a w:=h a rfl rfl rfl rfl
theorem run_move {P:Program} {a:Act} {o:Oper} {w:World} (x:Operand) (h:o.op = .move x):(execOp a.eval o).run P w = .ok (.value (a.eval x)) w:=by
 simp[execOp,h]
theorem run_nilCheck {P:Program} {a:Act} {o:Oper} {w:World} (x:Operand) (p:Addr) (h:o.op = .nilCheck x) (hx:a.eval x = .pointer (some p)):(execOp a.eval o).run P w = .ok (.value (.pointer (some p))) w:=by
 unfold execOp
 simp only[h,hx]
 simp
end Go
namespace Go.Proofs.YtoifalcpfnacnaaGreatDoor
open Go.RowKit
theorem take_at {cur xs:List Value} {n i:Nat} {v:Value} (h:cur.take n=xs) (hi:xs[i]? = some v):cur[i]? = some v:=by
 rw[←h,List.getElem?_take] at hi
 split at hi
 ·exact hi
 ·cases hi
theorem infoInt1:(Tryz.prog.info? 3).map (·.size)=some 1:=by kernel_rfl
theorem add_at (h r:Sha.St) (j:Nat) (hj:j<8):Sha.wAt (Sha.addSt h r).list j=(Sha.wAt h.list j+Sha.wAt r.list j)%4294967296:=
 match j,hj with
 | 0,_=>rfl
 | 1,_=>rfl
 | 2,_=>rfl
 | 3,_=>rfl
 | 4,_=>rfl
 | 5,_=>rfl
 | 6,_=>rfl
 | 7,_=>rfl
 | n+8,h=>absurd h (by omega)
theorem ok_at (h:Sha.St) (hh:h.ok) (j:Nat) (hj:j<8):Sha.wAt h.list j<4294967296:=
 match j,hj with
 | 0,_=>hh.a
 | 1,_=>hh.b
 | 2,_=>hh.c
 | 3,_=>hh.d
 | 4,_=>hh.e
 | 5,_=>hh.f
 | 6,_=>hh.g
 | 7,_=>hh.h
 | n+8,h=>absurd h (by omega)
namespace Cha
def rotl (v n:Nat):Nat:=v%2 ^ (32-n)*2 ^ n+v/2 ^ (32-n)
theorem rotl_lt (v n:Nat) (hn:n≤32) (hv:v<4294967296):rotl v n<4294967296:=by
 unfold rotl
 have hp:2 ^ (32-n)*2 ^ n=4294967296:=by rw[←Nat.pow_add,show 32-n+n=32 by omega]
 have hq:0<2 ^ (32-n):=Nat.two_pow_pos _
 have h1:v/2 ^ (32-n)<2 ^ n:=(Nat.div_lt_iff_lt_mul hq).2 (by rw[Nat.mul_comm,hp];exact hv)
 have h2:v%2 ^ (32-n)+1≤2 ^ (32-n):=Nat.mod_lt _ hq
 have h3:=Nat.mul_le_mul_right (2 ^ n) h2
 rw[hp,Nat.add_mul,Nat.one_mul] at h3
 omega
def add1 (x:List Nat) (a b:Nat):List Nat:=x.set a ((x.getD a 0+x.getD b 0)%4294967296)
def add2 (x:List Nat) (a d n:Nat):List Nat:=x.set d (rotl (x.getD d 0 ^^^ x.getD a 0) n)
def add (x:List Nat) (a b d n:Nat):List Nat:=add2 (add1 x a b) a d n
def quarter (x:List Nat) (a b c d:Nat):List Nat:=add (add (add (add x a b d 16) c d b 12) a b d 8) c d b 7
def Ok (x:List Nat):Prop:=x.length=16∧∀ v ∈ x,v<4294967296
theorem Ok.at {x:List Nat} (h:Ok x) (i:Nat) (hi:i<16):x.getD i 0<4294967296:=by
 rw[List.getD_eq_getElem?_getD,List.getElem?_eq_getElem (by rw[h.1];exact hi)]
 exact h.2 _ (List.getElem_mem _)
theorem Ok.set {x:List Nat} (h:Ok x) (i v:Nat) (hv:v<4294967296):Ok (x.set i v):=⟨by rw[List.length_set];exact h.1,fun u hu=>by
 rcases List.mem_or_eq_of_mem_set hu with h1 | h1
 ·exact h.2 u h1
 ·rw[h1];exact hv⟩
theorem Ok.add1 {x:List Nat} (h:Ok x) (a b:Nat):Ok (Cha.add1 x a b):=h.set _ _ (Nat.mod_lt _ (by decide))
theorem Ok.add2 {x:List Nat} (h:Ok x) (a d n:Nat) (ha:a<16) (hd:d<16) (hn:n≤32):Ok (Cha.add2 x a d n):=h.set _ _ (rotl_lt _ _ hn (Nat.xor_lt_two_pow (n:=32) (h.at d hd) (h.at a ha)))
theorem Ok.add {x:List Nat} (h:Ok x) (a b d n:Nat) (ha:a<16) (hd:d<16) (hn:n≤32):Ok (Cha.add x a b d n):=(h.add1 a b).add2 a d n ha hd hn
theorem Ok.quarter {x:List Nat} (h:Ok x) (a b c d:Nat) (ha:a<16) (hb:b<16) (hc:c<16) (hd:d<16):Ok (Cha.quarter x a b c d):=
 (((h.add a b d 16 ha hd (by decide)).add c d b 12 hc hb (by decide)).add a b d 8 ha hd (by decide)).add c d b 7 hc hb (by decide)
end Cha
end Go.Proofs.YtoifalcpfnacnaaGreatDoor
namespace Go
open Go.RowKit
def BlkM (w:World) (b:Nat) (t:TypeId) (cs:List Value):Prop:=
 ∃ lo hi,w.heap[b]? = some (.cells cs.toArray t (lo,hi))∧∀ j,j<cs.length→(decide (lo≤j)&&decide (j<hi))=false
section
variable {w:World} {b:Nat} {t:TypeId} {cs:List Value}
theorem Blk.marked (h:Blk w b t cs):BlkM w b t cs:=⟨0,0,h,fun j _=>by simp⟩
theorem BlkM.lt (h:BlkM w b t cs):b<w.heap.size:=by
 obtain ⟨lo,hi,h,_⟩:=h
 exact (Array.getElem?_eq_some_iff.1 h).1
theorem BlkM.cell (h:BlkM w b t cs) {i:Nat} {v:Value} (hi:cs[i]? = some v):w.cell? ⟨b,i,none⟩=some v:=by
 obtain ⟨lo,hi',h,_⟩:=h
 rw[cell_of_row w b i cs.toArray t (lo,hi') h];simpa using hi
theorem BlkM.frozen (h:BlkM w b t cs) {i:Nat} (hi:i<cs.length):w.frozen? ⟨b,i,none⟩=false:=by
 obtain ⟨lo,hi',h,hf⟩:=h
 have:=hf i hi
 unfold World.frozen?
 rw[h]
 exact this
theorem BlkM.grown {w':World} (h:BlkM w b t cs) {row:Option Nat} (hb:w.grownBy w' row) (hB:some b≠row):BlkM w' b t cs:=by
 have hl:=h.lt
 obtain ⟨lo,hi,h,hf⟩:=h
 exact ⟨lo,hi,by rw[hb.block b hl hB];exact h,hf⟩
theorem BlkM.below {w':World} (h:BlkM w b t cs) {B:Nat} (hb:Below B w w') (hB:b<B):BlkM w' b t cs:=by
 obtain ⟨lo,hi,h,hf⟩:=h
 exact ⟨lo,hi,by rw[hb.block b hB];exact h,hf⟩
theorem BlkM.setCell_same (h:BlkM w b t cs) (i:Nat) (v:Value):BlkM (w.setCell ⟨b,i,none⟩ v) b t (cs.set i v):=by
 obtain ⟨lo,hi,h,hf⟩:=h
 refine ⟨lo,hi,?_,by simpa using hf⟩
 unfold World.setCell
 rw[Array.getElem?_modify,if_pos rfl,h]
 simp
end
theorem BlkM.setCells_same {b:Nat} {t:TypeId}:∀ (vs:List Value) (cs:List Value) (o:Nat) (w:World),BlkM w b t cs→o+vs.length≤cs.length→BlkM (w.setCells b o vs) b t (laidOver cs o vs)
 | [],cs,o,w,h,_=>by simpa [World.setCells,laidOver] using h
 | v::r,cs,o,w,h,hl=>by
  rw[World.setCells]
  have h1:=BlkM.setCells_same r (cs.set o v) (o+1) _ (h.setCell_same o v) (by simp at hl ⊢;omega)
  have e:laidOver (cs.set o v) (o+1) r=laidOver cs o (v::r):=by
   simp only[List.length_cons] at hl
   unfold laidOver
   rw[List.take_succ_eq_append_getElem (by simp;omega),List.getElem_set_self,List.take_set_of_le (Nat.le_refl _),List.drop_set_of_lt (by omega)]
   simp only[List.length_cons,List.append_assoc,List.cons_append,List.nil_append]
   rw[show o+1+r.length=o+(r.length+1) by omega]
  rw[←e];exact h1
def Row (w:World) (base:Nat) (e:TypeId) (size:Nat) (v:Value) (n:Nat) (xs:List Value):Prop:=
 xs.length=n*size ∧
 ((v = .slice none 0 0∧n=0) ∨
 ∃ g cap cur,v = .slice (some ⟨g,0,none⟩) n cap∧base≤g∧BlkM w g e cur∧n≤cap∧cap≤maxLen∧cur.length=cap*size∧cur.take (n*size)=xs)
section
variable {w:World} {base:Nat} {e:TypeId} {size:Nat} {v:Value} {n:Nat} {xs:List Value}
theorem World.ownsRow.row (h:w.ownsRow base e size v n xs):Row w base e size v n xs:=by
 refine ⟨h.1,?_⟩
 rcases h.2 with hn | ⟨g,cap,cur,rfl,hb,hg,hc,hm,hsz,ht⟩
 ·exact .inl hn
 ·exact .inr ⟨g,cap,cur.toList,rfl,hb,(show Blk w g e cur.toList by unfold Blk;simpa using hg).marked,hc,hm,by simpa using hsz,ht⟩
theorem Row.nil (w:World) (base:Nat) (e:TypeId) (size:Nat):Row w base e size (.slice none 0 0) 0 []:=(World.ownsRow_nil w base e size).row
theorem Row.mono {base':Nat} (h:Row w base e size v n xs) (hb:base'≤base):Row w base' e size v n xs:=by
 refine ⟨h.1,?_⟩
 rcases h.2 with hn | ⟨g,cap,cur,rfl,hg,r⟩
 ·exact .inl hn
 ·exact .inr ⟨g,cap,cur,rfl,Nat.le_trans hb hg,r⟩
theorem Row.kept {w':World} {row:Option Nat} (h:Row w base e size v n xs) (hg:w.grownBy w' row) (hne:v.ownBlock=none∨v.ownBlock≠row):Row w' base e size v n xs:=by
 refine ⟨h.1,?_⟩
 rcases h.2 with hn | ⟨g,cap,cur,rfl,hb,hgg,r⟩
 ·exact .inl hn
 ·exact .inr ⟨g,cap,cur,rfl,hb,hgg.grown hg (by simpa [Value.ownBlock] using hne),r⟩
theorem Row.alloc (h:Row w base e size v n xs) (o:Obj):Row (w.alloc o) base e size v n xs:=h.kept (World.grownBy_alloc w o none) (by cases hv:v.ownBlock <;> simp)
theorem Row.drew (h:Row w base e size v n xs):Row w.drew base e size v n xs:=h
theorem Row.drewN (h:Row w base e size v n xs) (m:Nat):Row (w.drewN m) base e size v n xs:=h
theorem Row.lt (h:Row w base e size v n xs):∀ k,v.ownBlock=some k→base≤k∧k<w.heap.size:=by
 intro k hk
 rcases h.2 with ⟨rfl,_⟩ | ⟨g,cap,cur,rfl,hb,hg,_⟩
 ·simp[Value.ownBlock] at hk
 ·simp[Value.ownBlock] at hk
  subst hk
  exact ⟨hb,hg.lt⟩
theorem Row.open (h:Row w base e size v n xs) (hn:0<n):∃ g cap cur,v = .slice (some ⟨g,0,none⟩) n cap∧base≤g∧BlkM w g e cur∧n≤cap∧cap≤maxLen∧cur.length=cap*size∧cur.take (n*size)=xs:=by
 rcases h.2 with ⟨_,h0⟩ | h
 ·omega
 ·exact h
theorem run_append_row {P:Program} (t ty:TypeId) (i:TypeInfo) (z:Value) (bytes:Nat) (ht:P.underlying t=some (.slice e)) (hi:P.info? e=some i) (hz:i.zero=some z)
  (hsize:i.size=size) (hby:i.bytes=bytes) (hzs:z.cells.size=size) (hsz:0<size) (hown:Row w base e size v n xs)
  (a:Addr) (m c:Nat) (news:List Value) (hl:news.length=m*size) (hnews:∀ j u,news[j]? = some u→w.cell? (a.add j)=some u) (h1:∀ u ∈ news,u.oneCell'=true)
  (h63:n+m≤maxLen) (hbytes:(n+m)*bytes≤140737488355328) (hbase:base≤w.heap.size):
  ∃ v' w',(Builtin.append_ #[t,t] ty #[v,.slice (some a) m c]).run P w = .ok v' w'∧Row w' base e size v' (n+m) (xs++news)∧w.grownBy w' v.ownBlock ∧
   (v'.ownBlock=v.ownBlock∨∃ g,v'.ownBlock=some g∧w.heap.size≤g):=by
 have hlen:(xs++news).length=(n+m)*size:=by rw[List.length_append,hown.1,hl,Nat.add_mul]
 rcases hown.2 with ⟨rfl,rfl⟩ | ⟨g,cap,cur,rfl,hb,hg,hc,hm,hcl,htk⟩
 ·obtain rfl:xs=[]:=List.eq_nil_of_length_eq_zero (by simpa using hown.1)
  obtain ⟨v',w',hr,ho,hgr,_,hat⟩:=run_append_own_at (P:=P) w base t ty e i z size bytes ht hi hz hsize hby hzs hsz (.slice none 0 0) 0 [] (World.ownsRow_nil _ _ _ _) a m c news hl hnews h1 h63 hbytes hbase
  exact ⟨v',w',hr,ho.row,hgr,hat.imp id fun h=>⟨_,h,Nat.le_refl _⟩⟩
 ·by_cases hroom:n+m≤cap
  ·have hfit:n*size+news.length≤cur.length:=by
    rw[hl,hcl,←Nat.add_mul];exact Nat.mul_le_mul_right _ hroom
   have hr:=run_append_room_cells (P:=P) w t ty e i ht hi g 0 n cap a m c news (by rw[hsize];exact hl) hnews h1 hroom
    (fun j hj=>by rw[hg.cell (i:=0+n*i.size+j) (List.getElem?_eq_getElem (by rw[hsize];omega))];rfl)
    (fun j hj=>hg.frozen (by rw[hsize];omega))
   rw[hsize,Nat.zero_add] at hr
   refine ⟨_,_,hr,⟨hlen,.inr ⟨g,cap,_,rfl,hb,BlkM.setCells_same news cur (n*size) w hg hfit,hroom,hm,?_,?_⟩⟩,World.grownBy.setCells _ _ _ (World.grownBy.refl w _),.inl rfl⟩
   ·unfold laidOver;simp;omega
   ·unfold laidOver
    rw[htk,List.take_append_of_le_length (by rw[hlen];exact Nat.le_refl _),List.take_of_length_le (by rw[hlen];exact Nat.le_refl _)]
  ·obtain ⟨v',w',hr,ho,hgr⟩:=run_append_arg_grows (P:=P) w t ty e i z size bytes ht hi hz hsize hby hzs hsz ⟨g,0,none⟩ n cap xs hown.1
    (fun j u hu=>by
     rw[Addr.add_mid,Nat.zero_add]
     refine hg.cell ?_
     rw[←htk,List.getElem?_take] at hu
     split at hu
     ·exact hu
     ·cases hu) a m c news hl hnews (by omega) h63 hbytes
   refine ⟨v',w',hr,ho.row.mono hbase,⟨hgr.os,hgr.tape,hgr.output,hgr.size,fun k hk _=>hgr.block k hk (by simp)⟩,?_⟩
   cases hv:v'.ownBlock with
   | none=>exact .inl (by
     rcases ho.2 with ⟨rfl,h0⟩ | ⟨g',_,_,rfl,_⟩
     ·simp at h0;omega
     ·simp[Value.ownBlock] at hv)
   | some k=>exact .inr ⟨k,rfl,(ho.lt k hv).1⟩
end
theorem wp_append_row {P:Program} {w:World} {base:Nat} {e:TypeId} {size:Nat} {o:Oper} {a:Act} {K:Act→World→Prop} {Q:Exit→Act→World→Prop} (s x:Operand) (t:TypeId)
  (ho:o.op = .call { callee:=.builtin .append,args:=#[s,x],argTypes:=#[t,t] }) (i:TypeInfo) (z:Value) (bytes:Nat) (ht:P.underlying t=some (.slice e)) (hi:P.info? e=some i) (hz:i.zero=some z)
  (hsize:i.size=size) (hby:i.bytes=bytes) (hzs:z.cells.size=size) (hsz:0<size) (v:Value) (n:Nat) (xs:List Value) (hs:a.eval s=v) (hown:Row w base e size v n xs)
  (ad:Addr) (m c:Nat) (news:List Value) (hx:a.eval x = .slice (some ad) m c) (hl:news.length=m*size) (hnews:∀ j u,news[j]? = some u→w.cell? (ad.add j)=some u) (h1:∀ u ∈ news,u.oneCell'=true)
  (h63:n+m≤maxLen) (hbytes:(n+m)*bytes≤140737488355328) (hbase:base≤w.heap.size)
  (h:∀ v' w',Row w' base e size v' (n+m) (xs++news)→w.grownBy w' v.ownBlock→(v'.ownBlock=v.ownBlock∨∃ g,v'.ownBlock=some g∧w.heap.size≤g)→K (a.put o.dst v') w'):o.wp P a w K Q:=by
 obtain ⟨v',w',hr,h2,h3,h4⟩:=run_append_row (P:=P) t o.type i z bytes ht hi hz hsize hby hzs hsz hown ad m c news hl hnews h1 h63 hbytes hbase
 unfold Oper.wp execOp
 simp only[ho,resolve,invoke,builtin,Sem.run_bind,Sem.run_pure,Result.andThen_ok,List.map_toArray,List.map_cons,List.map_nil,hs,hx,hr]
 exact h v' w' h2 h3 h4
end Go
namespace Go.Proofs.YtoifalcpfnacnaaGreatDoor
open Go.RowKit
def u8L (l:List UInt8):List Value:=l.map fun x:UInt8=>Value.int .u8 ((x.toNat:Nat):Int)
theorem u8L_append (l m:List UInt8):u8L (l++m)=u8L l++u8L m:=by simp[u8L]
theorem u8L_one (l:List UInt8):∀ v ∈ u8L l,v.oneCell'=true:=by
 intro v hv
 obtain ⟨x,_,rfl⟩:=List.mem_map.1 hv
 rfl
theorem infoU8:(Tryz.prog.info? 5).map (fun i=>(i.zero,i.size,i.bytes))=some (some (.int .u8 0),1,1):=by kernel_rfl
theorem wpList_append_u8 {ops:Array Oper} {rest:List Oper} {o:Oper} {a:Act} {w:World} {Q:Exit→Act→World→Prop} (hgd:o.guard=none) (s x:Operand)
  (ho:o.op = .call { callee:=.builtin .append,args:=#[s,x],argTypes:=#[67,67] })
  (base:Nat) (v:Value) (n:Nat) (xs:List UInt8) (hs:a.eval s=v) (hown:Row w base 5 1 v n (u8L xs))
  (ad:Addr) (m c:Nat) (news:List UInt8) (hx:a.eval x = .slice (some ad) m c) (hl:news.length=m) (hnew:∀ j u,(u8L news)[j]? = some u→w.cell? (ad.add j)=some u) (hn:n+m≤1099511627776) (hbase:base≤w.heap.size)
  (h:∀ v' w',Row w' base 5 1 v' (n+m) (u8L (xs++news))→w.grownBy w' v.ownBlock→(v'.ownBlock=v.ownBlock∨∃ g,v'.ownBlock=some g∧w.heap.size≤g)→wpList Tryz.prog ops Q rest (a.put o.dst v') w'):wpList Tryz.prog ops Q (o::rest) a w:=by
 obtain ⟨i0,hi,hz0,hz1,hz2⟩:=info_parts infoU8
 refine wpList_plain hgd fun _ hK=>?_
 refine wp_append_row s x 67 ho i0 (.int .u8 0) 1 Tryz.underlying67 hi hz0 hz1 hz2 rfl (by decide) v n (u8L xs) hs hown ad m c (u8L news) hx (by simp[u8L,hl]) hnew (u8L_one _) ?_ ?_ hbase ?_
 ·unfold maxLen;omega
 ·omega
 ·intro v' w' h1 h2 h3
  exact hK _ _ (h v' w' (by rw[u8L_append];exact h1) h2 h3)
theorem bytesRow_list (s:ByteArray) (cap:Nat):(bytesRow s cap).toList=u8L s.data.toList++List.replicate (cap-s.size) (.int .u8 0):=by
 unfold bytesRow u8L
 simp
theorem row_bytes (s:ByteArray) (w:World) (cap:Nat) (hc:s.size≤cap) (hm:cap≤maxLen):
  Row (w.drew.alloc (.cells (bytesRow s cap) 5 ((bytesRow s cap).size,(bytesRow s cap).size+1))) w.heap.size 5 1 (.slice (some ⟨w.heap.size,0,none⟩) s.size cap) s.size (u8L s.data.toList):=by
 have hsz:s.data.toList.length=s.size:=by rw[Array.length_toList];rfl
 have hl:(bytesRow s cap).toList.length=cap:=by rw[bytesRow_list];simp[u8L,hsz];omega
 refine ⟨by simp[u8L,hsz],.inr ⟨w.heap.size,cap,(bytesRow s cap).toList,rfl,Nat.le_refl _,⟨_,_,heap_alloc_new w.drew _,?_⟩,hc,hm,by rw[hl];omega,?_⟩⟩
 ·intro j hj
  have:j<(bytesRow s cap).size:=by simpa using hj
  simp;omega
 ·rw[bytesRow_list,Nat.mul_one,List.take_left' (by simp[u8L,hsz])]
def vlen:Value→Nat
 | .slice _ n _=>n
 | _=>0
theorem gap_more (L j:Nat) (h:j<Sha.gap L):(L+1+j)%64≠56:=by unfold Sha.gap at h;omega
theorem gap_end (L:Nat):(L+1+Sha.gap L)%64=56:=by unfold Sha.gap;omega
theorem gap_lt (L:Nat):Sha.gap L<64:=by unfold Sha.gap;omega
theorem zeros_snoc (n:Nat):Sha.zeros n++[0]=Sha.zeros (n+1):=by
 unfold Sha.zeros;rw[List.replicate_succ']
theorem one_news {w:World} {g:Nat} {x:UInt8} {v:Int} (hv:v=(x.toNat:Nat)) (h:w.cell? ⟨g,0,none⟩=some (.int .u8 v)):∀ j u,(u8L [x])[j]? = some u→w.cell? ((⟨g,0,none⟩:Addr).add j)=some u:=by
 intro j u hj
 match j,hj with
 | 0,hj=>simp[u8L] at hj;subst hj;subst hv;rw[Addr.add_mid];exact h
theorem ofNat_mod (x:Nat):(UInt8.ofNat x).toNat=x%256:=by simp
theorem Row.str {w:World} {base:Nat} {l:List UInt8} {v:Value} {n:Nat} (h:Row w base 5 1 v n (u8L l)) (hn:0<n):∃ g cap,v = .slice (some ⟨g,0,none⟩) n cap∧(convert 67 9 v).run Tryz.prog w = .ok (.string ⟨l.toArray⟩) w:=by
 obtain ⟨g,cap,cur,rfl,_,hB,_,_,_,htk⟩:=h.open hn
 have hl:l.length=n:=by have:=h.1;simpa [u8L] using this
 refine ⟨g,cap,rfl,?_⟩
 rw[←hl]
 refine run_convert_bytes_back w 67 9 5 ⟨g,0,none⟩ cap l Tryz.underlying67 Tryz.underlying5 Tryz.underlying9 (fun j hj=>?_)
 rw[Addr.add_mid,Nat.zero_add]
 exact hB.cell (take_at htk (by simp[u8L,hj]))
theorem Row.vlen {w:World} {base:Nat} {e:TypeId} {size:Nat} {v:Value} {n:Nat} {xs:List Value} (h:Row w base e size v n xs):Proofs.YtoifalcpfnacnaaGreatDoor.vlen v=n:=by
 rcases h.2 with ⟨rfl,rfl⟩ | ⟨g,cap,cur,rfl,_⟩ <;> rfl
def pickN (c:Int) (n:Nat):Nat:=if c<0 then (-(c+1)).toNat%n else c.toNat%n
theorem pickN_lt (c:Int) (n:Nat) (h:0<n):pickN c n<n:=by
 unfold pickN;split <;> exact Nat.mod_lt _ h
def Strs (w:World) (v:Value) (l:List ByteArray):Prop:=
 (l=[]∧∃ ao c,v = .slice ao 0 c)∨∃ g o c,v = .slice (some ⟨g,o,none⟩) l.length c∧∀ i x,l[i]? = some x→w.cell? ⟨g,o+i,none⟩=some (.string x)
theorem _root_.Go.World.cell?_alloc_later (w:World) (o:Obj) (a:Addr) {v:Value} (h:w.cell? a=some v):(w.alloc o).cell? a=some v:=by
 rw[World.cell?_alloc_lt _ _ _ (World.block_lt_of_cell? w a h)];exact h
theorem src_of {w:World} {ao:Option Addr} {n g:Nat} {cs:List Value} {o:Obj} (h:0<n→∃ ad:Addr,ao=some ad∧∀ j v,cs[j]? = some v→w.cell? (ad.add j)=some v) (hl:cs.length=n):
  0<cs.length→some (⟨g,0,none⟩:Addr)=some ⟨g,0,none⟩∧∃ ad,ao=some ad∧∀ j v,cs[j]? = some v→(w.alloc o).cell? (ad.add j)=some v:=by
 intro h0
 obtain ⟨ad,rfl,hc⟩:=h (by omega)
 exact ⟨rfl,ad,rfl,fun j v hj=>World.cell?_alloc_later w o _ (hc j v hj)⟩
theorem strings_made (n:Nat):madeCells (Value.string ByteArray.empty).cells (n*1)=(List.replicate n (Value.string ByteArray.empty)).toArray:=by
 apply Array.ext
 ·simp[madeCells]
 ·intro i h1 h2
  simp[madeCells,Value.cells,Nat.mod_one]
theorem infoStr:(Tryz.prog.info? 9).map (fun i=>(i.zero,i.size,i.bytes))=some (some (.string ByteArray.empty),1,16):=by kernel_rfl
theorem make_strs (n:Nat) (hn:n≤1099511627776) (w:World):(Instr.makeSlice 25 (.int .i64 (n:Nat)) (.int .i64 (n:Nat))).run Tryz.prog w = .ok (.slice (some ⟨w.heap.size,0,none⟩) n n) (w.alloc (.cells (List.replicate n (Value.string ByteArray.empty)).toArray 9)):=by
 obtain ⟨i0,hi,hz0,hz1,hz2⟩:=info_parts infoStr
 have h:=run_make (P:=Tryz.prog) w 25 9 i0 (.string ByteArray.empty) Tryz.underlying25 hi hz0 .i64 .i64 (n:Int) (n:Int) (by omega) (by omega) (by rw[hz2];omega) (by omega)
 rw[hz1] at h
 simp only[Int.toNat_natCast] at h
 rw[strings_made] at h
 exact h
def strV (l:List ByteArray):List Value:=l.map fun x=>Value.string x
theorem strV_one (l:List ByteArray):∀ v ∈ strV l,v.oneCell'=true:=by
 intro v hv
 obtain ⟨x,_,rfl⟩:=List.mem_map.1 hv
 rfl
theorem infoStr1:(Tryz.prog.info? 9).map (·.size)=some 1:=by kernel_rfl
def intV (l:List Int):List Value:=l.map fun x=>Value.int .i64 x
theorem intV_one (l:List Int):∀ v ∈ intV l,v.oneCell'=true:=by
 intro v hv
 obtain ⟨x,_,rfl⟩:=List.mem_map.1 hv
 rfl
set_option maxHeartbeats 400000 in
theorem springOf_any (s:ByteArray) (w:World):
  Calls Tryz.prog 20 #[.string s] w fun e w'=>e = .returned (.pointer (some ⟨w.heap.size,0,none⟩))∧Blk w' w.heap.size 94 [.string s,.int .i64 0]∧Below w.heap.size w w':=by
 go_enter Tryz.func20,Tryz.ntmps20
 go_wp2
 go_ret
 exact ⟨rfl,Blk.new rfl rfl,(Below.refl _ _).alloc (Nat.le_refl _) _⟩
theorem ints_made (n:Nat):madeCells (Value.int .i64 0).cells (n*1)=(intV (List.replicate n 0)).toArray:=by
 apply Array.ext
 ·simp[madeCells,intV]
 ·intro i h1 h2
  simp[madeCells,Value.cells,Nat.mod_one,intV]
theorem make_ints (n:Nat) (hn:n≤1099511627776) (w:World):(Instr.makeSlice 75 (.int .i64 (n:Nat)) (.int .i64 (n:Nat))).run Tryz.prog w = .ok (.slice (some ⟨w.heap.size,0,none⟩) n n) (w.alloc (.cells (intV (List.replicate n 0)).toArray 3)):=by
 obtain ⟨i0,hi,hz0,hz1,hz2⟩:=info_parts infoInt
 have h:=run_make (P:=Tryz.prog) w 75 3 i0 (.int .i64 0) Tryz.underlying75 hi hz0 .i64 .i64 (n:Int) (n:Int) (by omega) (by omega) (by rw[hz2];omega) (by omega)
 rw[hz1] at h
 simp only[Int.toNat_natCast] at h
 rw[ints_made] at h
 exact h
set_option maxHeartbeats 400000 in
theorem sinkGot_any (b:Nat) (x:ByteArray) (w:World) (c:w.cell? ⟨b,0,none⟩=some (.string x)):
  Calls Tryz.prog 25 #[.pointer (some ⟨b,0,none⟩)] w fun e w'=>e = .returned (.string x)∧w'=w:=by
 go_enter Tryz.func25,Tryz.ntmps25
 go_wp2
 go_ret
 exact ⟨rfl,rfl⟩
set_option maxHeartbeats 400000 in
theorem springLeft_any (b:Nat) (text:ByteArray) (x:Int) (w:World) (c0:w.cell? ⟨b,0,none⟩=some (.string text)) (c1:w.cell? ⟨b,1,none⟩=some (.int .i64 x)):
  Calls Tryz.prog 24 #[.pointer (some ⟨b,0,none⟩)] w fun e w'=>e = .returned (.int .i64 (IntKind.i64.wrap ((text.size:Int)-x)))∧∃ m,w'=w.drewN m:=by
 obtain ⟨y,hy⟩:∃ y,y=IntKind.i64.wrap ((text.size:Int)-x):=⟨_,rfl⟩
 rw[←hy]
 have hy':=hy.symm
 clear hy
 go_enter Tryz.func24,Tryz.ntmps24
 go_wp2
 go_quiet (fail)
 go_wp2
 go_ret
 exact ⟨rfl,_,rfl⟩
def Cha.number (s:List UInt8) (i:Nat):Nat:=(s.getD i 0).toNat+256*((s.getD (i+1) 0).toNat+256*((s.getD (i+2) 0).toNat+256*(s.getD (i+3) 0).toNat))
theorem Cha.number_lt (s:List UInt8) (i:Nat):Cha.number s i<4294967296:=by
 have h1:=UInt8.toNat_lt (s.getD i 0)
 have h2:=UInt8.toNat_lt (s.getD (i+1) 0)
 have h3:=UInt8.toNat_lt (s.getD (i+2) 0)
 have h4:=UInt8.toNat_lt (s.getD (i+3) 0)
 unfold Cha.number
 omega
theorem byte_at (s:ByteArray) (i:Nat) (h:i<s.size):s[i]=s.data.toList.getD i 0:=by
 have h2:i<s.data.toList.length:=by rw[Array.length_toList];exact h
 rw[List.getD_eq_getElem?_getD,List.getElem?_eq_getElem h2,Array.getElem_toList]
 rfl
theorem h0_take (k:Nat) (hk:k<8):i64V (Sha.H0.list.take k)++[.int .i64 (Sha.wAt Sha.H0.list k:Nat)]=i64V (Sha.H0.list.take (k+1)):=
 match k,hk with
 | 0,_=>rfl
 | 1,_=>rfl
 | 2,_=>rfl
 | 3,_=>rfl
 | 4,_=>rfl
 | 5,_=>rfl
 | 6,_=>rfl
 | 7,_=>rfl
 | n+8,h=>absurd h (by omega)
theorem out_take (st:Sha.St) (k:Nat) (hk:k<8):(Sha.out st).take (4*k)++Sha.be4 (Sha.wAt st.list k)=(Sha.out st).take (4*(k+1)):=
 match k,hk with
 | 0,_=>rfl
 | 1,_=>rfl
 | 2,_=>rfl
 | 3,_=>rfl
 | 4,_=>rfl
 | 5,_=>rfl
 | 6,_=>rfl
 | 7,_=>rfl
 | n+8,h=>absurd h (by omega)
theorem extract_list (P:List UInt8) (a b:Nat):(ByteArray.extract ⟨P.toArray⟩ a b).data.toList=(P.drop a).take (b-a):=by
 rw[ByteArray.data_extract]
 simp
theorem new_sz {w:World} {b:Nat} {o:Obj} (h:b≤w.heap.size):b≤(w.alloc o).heap.size:=by simp;omega
namespace Cha
def sigma:List UInt8:=[101,120,112,97,110,100,32,51,50,45,98,121,116,101,32,107]
def nums (s:List UInt8) (k:Nat):List Nat:=(List.range k).map fun i=>number s (4*i)
def state (key nonce:List UInt8) (n:Nat):List Nat:=nums (sigma++key) 12++[n]++nums nonce 3
theorem state_ok (key nonce:List UInt8) (n:Nat) (hn:n<4294967296):Ok (state key nonce n):=by
 refine ⟨by simp[state,nums],fun v hv=>?_⟩
 unfold state nums at hv
 simp only[List.mem_append,List.mem_map,List.mem_singleton] at hv
 rcases hv with (⟨i,_,rfl⟩ | rfl) | ⟨i,_,rfl⟩
 ·exact number_lt _ _
 ·exact hn
 ·exact number_lt _ _
end Cha
namespace Cha
def col (x:List Nat) (k:Nat):List Nat:=quarter x k (4+k) (8+k) (12+k)
def diag (x:List Nat) (k:Nat):List Nat:=quarter x k (4+(k+1)%4) (8+(k+2)%4) (12+(k+3)%4)
def cols (x:List Nat):Nat→List Nat
 | 0=>x
 | k+1=>col (cols x k) k
def diags (x:List Nat):Nat→List Nat
 | 0=>x
 | k+1=>diag (diags x k) k
def rounds (x:List Nat):Nat→List Nat
 | 0=>x
 | r+1=>diags (cols (rounds x r) 4) 4
theorem Ok.cols {x:List Nat} (h:Ok x):∀ k,k≤4→Ok (Cha.cols x k)
 | 0,_=>h
 | k+1,hk=>(Ok.cols h k (by omega)).quarter _ _ _ _ (by omega) (by omega) (by omega) (by omega)
theorem Ok.diags {x:List Nat} (h:Ok x):∀ k,k≤4→Ok (Cha.diags x k)
 | 0,_=>h
 | k+1,hk=>(Ok.diags h k (by omega)).quarter _ _ _ _ (by omega) (by omega) (by omega) (by omega)
theorem Ok.rounds {x:List Nat} (h:Ok x):∀ r,Ok (Cha.rounds x r)
 | 0=>h
 | r+1=>((Ok.rounds h r).cols 4 (by omega)).diags 4 (by omega)
def sumW (x s:List Nat) (i:Nat):Nat:=(x.getD i 0+s.getD i 0)%4294967296
def leB (v b:Nat):List UInt8:=(List.range b).map fun j=>UInt8.ofNat (v/256 ^ j)
def outs (x s:List Nat) (k:Nat):List UInt8:=(List.range k).flatMap fun i=>leB (sumW x s i) 4
theorem outs_succ (x s:List Nat) (k:Nat):outs x s (k+1)=outs x s k++leB (sumW x s k) 4:=by simp[outs,List.range_succ]
theorem outs_len (x s:List Nat):∀ k,(outs x s k).length=4*k
 | 0=>rfl
 | k+1=>by rw[outs_succ,List.length_append,outs_len x s k];simp[leB];omega
def block (key nonce:List UInt8) (n:Nat):List UInt8:=outs (rounds (state key nonce n) 10) (state key nonce n) 16
theorem block_len (key nonce:List UInt8) (n:Nat):(block key nonce n).length=64:=outs_len _ _ 16
end Cha
namespace Dig
def val:List Nat→Nat
 | []=>0
 | d::r=>d+256*val r
def Ok (l:List Nat):Prop:=∀ d ∈ l,d<256
theorem val_append:∀ (l m:List Nat),val (l++m)=val l+256 ^ l.length*val m
 | [],m=>by simp[val]
 | d::r,m=>by
  show d+256*val (r++m)=d+256*val r+256 ^ (r.length+1)*val m
  rw[val_append r m,Nat.mul_add,Nat.pow_succ,←Nat.mul_assoc,Nat.mul_comm 256 (256 ^ r.length)]
  omega
theorem val_one (d:Nat):val [d]=d:=by simp[val]
theorem val_snoc (l:List Nat) (d:Nat):val (l++[d])=val l+256 ^ l.length*d:=by rw[val_append,val_one]
theorem val_take (l:List Nat) (i:Nat):val (l.take (i+1))=val (l.take i)+256 ^ i*l.getD i 0:=by
 by_cases h:i<l.length
 ·rw[List.take_succ_eq_append_getElem h,val_snoc,List.length_take,Nat.min_eq_left (Nat.le_of_lt h),List.getD_eq_getElem?_getD,List.getElem?_eq_getElem h]
  rfl
 ·rw[List.take_of_length_le (by omega),List.take_of_length_le (by omega),List.getD_eq_getElem?_getD,List.getElem?_eq_none (by omega)]
  simp
theorem val_all (l:List Nat) (i:Nat) (h:l.length≤i):val (l.take i)=val l:=by rw[List.take_of_length_le h]
theorem Ok.at {l:List Nat} (h:Ok l) (i:Nat):l.getD i 0<256:=by
 by_cases hi:i<l.length
 ·rw[List.getD_eq_getElem?_getD,List.getElem?_eq_getElem hi];exact h _ (List.getElem_mem _)
 ·rw[List.getD_eq_getElem?_getD,List.getElem?_eq_none (by omega)];decide
end Dig
def digitsOf (s:List UInt8):List Nat:=s.map (·.toNat)
theorem digitsOf_ok (s:List UInt8):Dig.Ok (digitsOf s):=fun d hd=>by
 obtain ⟨x,_,rfl⟩:=List.mem_map.1 hd
 exact UInt8.toNat_lt x
def leB (v k:Nat):List UInt8:=(List.range k).map fun i=>UInt8.ofNat (v/256 ^ i%256)
theorem leB_succ (v k:Nat):leB v (k+1)=leB v k++[UInt8.ofNat (v/256 ^ k%256)]:=by simp[leB,List.range_succ]
theorem leB_len (v k:Nat):(leB v k).length=k:=by simp[leB]
namespace Pol
def P:Nat:=2 ^ 130-5
def cl (i x:Nat):Nat:=if i%4=3 then x%16 else if i%4=0∧0<i then x-x%4 else x
def clL (l:List Nat) (k:Nat):List Nat:=l.mapIdx fun i x=>if i<k then cl i x else x
theorem clL_len (l:List Nat) (k:Nat):(clL l k).length=l.length:=by simp[clL]
theorem cl_le (i x:Nat):cl i x≤x:=by
 unfold cl
 split
 ·exact Nat.mod_le _ _
 ·split
  ·omega
  ·exact Nat.le_refl _
theorem clL_ok {l:List Nat} (h:Dig.Ok l) (k:Nat):Dig.Ok (clL l k):=fun d hd=>by
 obtain ⟨i,hi,rfl⟩:=List.mem_iff_getElem.1 hd
 have hi2:i<l.length:=by rw[clL_len] at hi;exact hi
 simp only[clL,List.getElem_mapIdx]
 have h1:=h l[i] (List.getElem_mem _)
 have h2:=cl_le i l[i]
 split <;> omega
end Pol
namespace Pol
def num (text:List UInt8) (j:Nat):Nat:=Dig.val (digitsOf ((text.drop (16*j)).take 16++[1]))
def acc (r:Nat) (text:List UInt8):Nat→Nat
 | 0=>0
 | j+1=>(acc r text j+num text j)*r%P
def rOf (key:List UInt8):Nat:=Dig.val (clL (digitsOf (key.take 16)) 16)
def sOf (key:List UInt8):Nat:=Dig.val (digitsOf (key.drop 16))
def tag (key text:List UInt8):List UInt8:=leB (acc (rOf key) text ((text.length+15)/16)+sOf key) 16
end Pol
theorem sub_list (a:ByteArray) (i j:Nat):(a.extract i j).data.toList=(a.data.toList.drop i).take (j-i):=by
 conv=>lhs;rw[show a=⟨a.data.toList.toArray⟩ by simp]
 exact extract_list _ i j
theorem cat_list (a b:ByteArray):(a++b).data.toList=a.data.toList++b.data.toList:=by simp[ByteArray.data_append]
theorem text_len (a:ByteArray):a.data.toList.length=a.size:=by rw[Array.length_toList];rfl
theorem cat_size (a b:ByteArray):(a++b).size=a.size+b.size:=by rw[←text_len,cat_list,List.length_append,text_len,text_len]
theorem digitsOf_len (l:List UInt8):(digitsOf l).length=l.length:=by simp[digitsOf]
theorem u8x (x c:UInt8):bits .xor .u8 ((x.toNat:Nat):Int) ((c.toNat:Nat):Int)=(((x ^^^ c).toNat:Nat):Int):=by
 rw[u8_xor_nat _ _ (UInt8.toNat_lt x) (UInt8.toNat_lt c),UInt8.toNat_xor]
theorem step_append_u8 {ops:Array Oper} {o:Oper} {a:Act} {w:World} {K:Act→World→Prop} {Q:Exit→Act→World→Prop} {E:Prop} (hgd:o.guard=none) (s x:Operand)
  (ho:o.op = .call { callee:=.builtin .append,args:=#[s,x],argTypes:=#[67,67] })
  (base:Nat) (v:Value) (n:Nat) (xs:List UInt8) (hs:a.eval s=v) (hown:Row w base 5 1 v n (u8L xs))
  (ad:Addr) (m c:Nat) (news:List UInt8) (hx:a.eval x = .slice (some ad) m c) (hl:news.length=m) (hnew:∀ j u,(u8L news)[j]? = some u→w.cell? (ad.add j)=some u) (hn:n+m≤1099511627776) (hbase:base≤w.heap.size)
  (h:∀ v' w',Row w' base 5 1 v' (n+m) (u8L (xs++news))→w.grownBy w' v.ownBlock→(v'.ownBlock=v.ownBlock∨∃ g,v'.ownBlock=some g∧w.heap.size≤g)→K (a.put o.dst v') w'):
  if Region.wanted o (yielded ops a.tmps)=true then Oper.wp Tryz.prog o a w K Q else E:=by
 rw[if_pos (by simp[Region.wanted,hgd])]
 obtain ⟨i0,hi,hz0,hz1,hz2⟩:=info_parts infoU8
 refine wp_append_row s x 67 ho i0 (.int .u8 0) 1 Tryz.underlying67 hi hz0 hz1 hz2 rfl (by decide) v n (u8L xs) hs hown ad m c (u8L news) hx (by simp[u8L,hl]) hnew (u8L_one _) ?_ ?_ hbase ?_
 ·unfold maxLen;omega
 ·omega
 ·intro v' w' h1 h2 h3
  exact h v' w' (by rw[u8L_append];exact h1) h2 h3
namespace Cha
def ks (key nonce:List UInt8) (n p:Nat):UInt8:=(block key nonce (n+p/64)).getD (p%64) 0
def xorL (key nonce:List UInt8) (n from_:Nat) (text:List UInt8) (k:Nat):List UInt8:=(List.range k).map fun i=>text.getD i 0 ^^^ ks key nonce n (from_+i)
theorem xorL_succ (key nonce:List UInt8) (n from_:Nat) (text:List UInt8) (k:Nat):xorL key nonce n from_ text (k+1)=xorL key nonce n from_ text k++[text.getD k 0 ^^^ ks key nonce n (from_+k)]:=by simp[xorL,List.range_succ]
end Cha
theorem Row.strAny {w:World} {base:Nat} {l:List UInt8} {v:Value} {n:Nat} (h:Row w base 5 1 v n (u8L l)):∃ ao cap,v = .slice ao n cap∧n≤cap∧cap≤maxLen∧(convert 67 9 v).run Tryz.prog w = .ok (.string ⟨l.toArray⟩) w:=by
 have hl:l.length=n:=by have:=h.1;simpa [u8L] using this
 rcases Nat.eq_zero_or_pos n with h0 | h0
 ·subst h0
  obtain rfl:l=[]:=List.eq_nil_of_length_eq_zero hl
  rcases h.2 with ⟨rfl,_⟩ | ⟨g,cap,cur,rfl,_,_,_,hc,_⟩
  ·refine ⟨none,0,rfl,Nat.le_refl _,by decide,?_⟩
   rw[run_convert_bytes_string w 67 9 5 none 0 0 Tryz.underlying67 Tryz.underlying5 Tryz.underlying9]
   rfl
  ·exact ⟨_,cap,rfl,Nat.zero_le _,hc,run_convert_bytes_back (P:=Tryz.prog) w 67 9 5 ⟨g,0,none⟩ cap [] Tryz.underlying67 Tryz.underlying5 Tryz.underlying9 (fun j hj=>absurd hj (Nat.not_lt_zero _))⟩
 ·obtain ⟨g,cap,cur,rfl,_,hB,hc1,hc2,_,htk⟩:=h.open h0
  refine ⟨_,cap,rfl,hc1,hc2,?_⟩
  rw[←hl]
  refine run_convert_bytes_back w 67 9 5 ⟨g,0,none⟩ cap l Tryz.underlying67 Tryz.underlying5 Tryz.underlying9 (fun j hj=>?_)
  rw[Addr.add_mid,Nat.zero_add]
  exact hB.cell (take_at htk (by simp[u8L,hj]))
namespace Box
def gap (n:Nat):Nat:=(16-n%16)%16
def full (l:List UInt8):List UInt8:=l++List.replicate (gap l.length) 0
def laid (aad body:List UInt8):List UInt8:=full aad++full body++leB aad.length 8++leB body.length 8
def tag (key nonce aad body:List UInt8):List UInt8:=Pol.tag ((Cha.block key nonce 0).take 32) (laid aad body)
def sealed (key nonce aad text:List UInt8):List UInt8:=Cha.xorL key nonce 1 0 text text.length++tag key nonce aad (Cha.xorL key nonce 1 0 text text.length)
theorem gap_more (n j:Nat) (h:j<gap n):(n+j)%16≠0:=by unfold gap at h;omega
theorem gap_end (n:Nat):(n+gap n)%16=0:=by unfold gap;omega
theorem gap_lt (n:Nat):gap n<16:=by unfold gap;omega
end Box
theorem two_toList (l:List UInt8):(⟨l.toArray⟩:ByteArray).data.toList=l:=by simp
theorem two_size (l:List UInt8):(⟨l.toArray⟩:ByteArray).size=l.length:=by rw[←text_len]
theorem text_ext {a b:ByteArray} (h:a.data.toList=b.data.toList):a=b:=ByteArray.ext (Array.toList_inj.1 h)
namespace Box
theorem tag_len (key nonce aad body:List UInt8):(tag key nonce aad body).length=16:=by unfold tag Pol.tag;rw[leB_len]
theorem xor_len (key nonce:List UInt8) (n f:Nat) (text:List UInt8) (k:Nat):(Cha.xorL key nonce n f text k).length=k:=by simp[Cha.xorL]
end Box
namespace Box
def bare (key nonce box:List UInt8):List UInt8:=Cha.xorL key nonce 1 0 (box.take (box.length-16)) (box.length-16)
def opened (key nonce aad box:List UInt8):List UInt8 × Int:=
 if box.length<16 then ([],4) else if sealed key nonce aad (bare key nonce box)=box then (bare key nonce box,0) else ([],4)
end Box
def u8V (l:List UInt8):List Value:=l.map fun x:UInt8=>Value.int .u8 ((x.toNat:Nat):Int)
def u32V (l:List Nat):List Value:=l.map fun x:Nat=>Value.int .u32 ((x:Nat):Int)
def zeros32 (n:Nat):List Nat:=List.replicate n 0
theorem u8V_at (b:List UInt8) (i:Nat) (h:i<b.length):(u8V b)[i]? = some (.int .u8 (Sha.by8 b i:Nat)):=by
 simp[u8V,Sha.by8,h]
theorem u32V_new (l:List Nat) (n k:Nat) (hl:l.length=k) (hn:0<n):(u32V (l++zeros32 n))[k]? = some (.int .u32 0):=by
 subst hl
 simp[u32V,zeros32,hn]
theorem u32V_one (l:List Nat):∀ v ∈ u32V l,v.oneCell'=true:=by
 intro v hv
 obtain ⟨x,_,rfl⟩:=List.mem_map.1 hv
 rfl
theorem u32V_set (l:List Nat) (n k x:Nat) (hl:l.length=k) (hn:0<n):
  (u32V (l++zeros32 n)).set k (.int .u32 (x:Int))=u32V ((l++[x])++zeros32 (n-1)):=by
 subst hl
 obtain ⟨m,rfl⟩:∃ m,n=m+1:=⟨n-1,by omega⟩
 simp[u32V,zeros32,List.replicate_succ,List.set_append_right]
theorem u32V_at (l:List Nat) (n i:Nat) (hi:i<l.length):(u32V (l++zeros32 n))[i]? = some (.int .u32 (Sha.wAt l i:Nat)):=by
 simp[u32V,Sha.wAt,hi,List.getElem?_append_left]
theorem or_shift (a b n:Nat) (hb:b<2 ^ n):a*2 ^ n ||| b=a*2 ^ n+b:=by
 rw[←Nat.shiftLeft_eq,Nat.shiftLeft_add_eq_or_of_lt hb]
theorem be_int (b:List UInt8) (k:Nat):
  bits .or .u32 (bits .or .u32 (bits .or .u32 ((Sha.by8 b (4*k):Nat)%4294967296*16777216%4294967296:Int) ((Sha.by8 b (4*k+1):Nat)%4294967296*65536%4294967296:Int))
   ((Sha.by8 b (4*k+2):Nat)%4294967296*256%4294967296:Int)) ((Sha.by8 b (4*k+3):Nat)%4294967296:Int)=(Sha.be b k:Nat):=by
 have h1:=Sha.by8_lt b (4*k)
 have h2:=Sha.by8_lt b (4*k+1)
 have h3:=Sha.by8_lt b (4*k+2)
 have h4:=Sha.by8_lt b (4*k+3)
 unfold Sha.be
 generalize Sha.by8 b (4*k)=x at *
 generalize Sha.by8 b (4*k+1)=y at *
 generalize Sha.by8 b (4*k+2)=z at *
 generalize Sha.by8 b (4*k+3)=t at *
 have e1:((x:Int)%4294967296*16777216%4294967296)=((x*16777216:Nat):Int):=by omega
 have e2:((y:Int)%4294967296*65536%4294967296)=((y*65536:Nat):Int):=by omega
 have e3:((z:Int)%4294967296*256%4294967296)=((z*256:Nat):Int):=by omega
 have e4:((t:Int)%4294967296)=((t:Nat):Int):=by omega
 have o1:x*16777216 ||| y*65536=x*16777216+y*65536:=or_shift x (y*65536) 24 (by omega)
 have o2:(x*16777216+y*65536) ||| z*256=x*16777216+y*65536+z*256:=by
  have:=or_shift (x*256+y) (z*256) 16 (by omega)
  rw[show (x*256+y)*2 ^ 16=x*16777216+y*65536 by omega] at this
  exact this
 have o3:(x*16777216+y*65536+z*256) ||| t=x*16777216+y*65536+z*256+t:=by
  have:=or_shift (x*65536+y*256+z) t 8 (by omega)
  rw[show (x*65536+y*256+z)*2 ^ 8=x*16777216+y*65536+z*256 by omega] at this
  exact this
 rw[e1,e2,e3,e4,u32_or_nat _ _ (by omega) (by omega),o1,u32_or_nat _ _ (by omega) (by omega),o2,u32_or_nat _ _ (by omega) (by omega),o3]
 omega
theorem sched_lo (b:List UInt8) (k:Nat) (hk:k<16):Sha.sched b k++[Sha.be b k]=Sha.sched b (k+1):=by
 show _=Sha.sched b k++[Sha.schedStep b (Sha.sched b k) k]
 rw[Sha.schedStep,if_pos hk]
theorem sched_hi (b:List UInt8) (k:Nat) (hk:¬ k<16):
  Sha.sched b k++[(Sha.wAt (Sha.sched b k) (k-16)+Sha.s0 (Sha.wAt (Sha.sched b k) (k-15))+Sha.wAt (Sha.sched b k) (k-7)+Sha.s1 (Sha.wAt (Sha.sched b k) (k-2)))%4294967296]=Sha.sched b (k+1):=by
 show _=Sha.sched b k++[Sha.schedStep b (Sha.sched b k) k]
 rw[Sha.schedStep,if_neg hk]
 congr 3
 omega
theorem spread_lo (b:List UInt8) (w wr:World) (k:Nat) (v:Int) (hk:k<16) (hv:v=(Sha.be b k:Nat)) (hB0:Blk wr w.heap.size 163 (u8V b)) (hB1:Blk wr (w.heap.size+1) 187 (u32V (zeros32 64)))
  (hB2:Blk wr (w.heap.size+1+1) 187 (u32V (Sha.sched b k++zeros32 (64-k)))) (hbe:Below w.heap.size w wr):
  Blk (wr.setCell ⟨w.heap.size+1+1,k,none⟩ (.int .u32 v)).drew w.heap.size 163 (u8V b)∧Blk (wr.setCell ⟨w.heap.size+1+1,k,none⟩ (.int .u32 v)).drew (w.heap.size+1) 187 (u32V (zeros32 64)) ∧
  Blk (wr.setCell ⟨w.heap.size+1+1,k,none⟩ (.int .u32 v)).drew (w.heap.size+1+1) 187 (u32V (Sha.sched b (k+1)++zeros32 (64-(k+1)))) ∧
  Below w.heap.size w (wr.setCell ⟨w.heap.size+1+1,k,none⟩ (.int .u32 v)).drew:=by
 subst hv
 refine ⟨(hB0.setCell_other _ _ (by simp;omega)).drew,(hB1.setCell_other _ _ (by simp)).drew,?_,(hbe.setCell (by simp;omega) _).drew⟩
 have:=(hB2.setCell_same k (.int .u32 (Sha.be b k:Nat))).drew
 rw[u32V_set _ _ _ _ (Sha.sched_len b k) (by omega),sched_lo b k hk] at this
 exact this
theorem spread_hi (b:List UInt8) (w wr:World) (k ia ib ic id:Nat) (h16:¬ k<16) (hk:k<64) (hia:ia+16=k) (hib:ib+15=k) (hic:ic+7=k) (hid:id+2=k)
  (hB1:Blk wr (w.heap.size+1) 187 (u32V (zeros32 64))) (hB2:Blk wr (w.heap.size+1+1) 187 (u32V (Sha.sched b k++zeros32 (64-k)))) (hbe:Below w.heap.size w wr)
  (v:Int) (hv:v=((Sha.wAt (Sha.sched b k) ia+Sha.s0 (Sha.wAt (Sha.sched b k) ib)+Sha.wAt (Sha.sched b k) ic+Sha.s1 (Sha.wAt (Sha.sched b k) id))%4294967296:Nat)):
  Blk (wr.setCell ⟨w.heap.size+1+1,k,none⟩ (.int .u32 v)).drew (w.heap.size+1) 187 (u32V (zeros32 64)) ∧
  Blk (wr.setCell ⟨w.heap.size+1+1,k,none⟩ (.int .u32 v)).drew (w.heap.size+1+1) 187 (u32V (Sha.sched b (k+1)++zeros32 (64-(k+1)))) ∧
  Below w.heap.size w (wr.setCell ⟨w.heap.size+1+1,k,none⟩ (.int .u32 v)).drew:=by
 subst hv
 refine ⟨(hB1.setCell_other _ _ (by simp)).drew,?_,(hbe.setCell (by simp;omega) _).drew⟩
 have:=(hB2.setCell_same k (.int .u32 ((Sha.wAt (Sha.sched b k) ia+Sha.s0 (Sha.wAt (Sha.sched b k) ib)+Sha.wAt (Sha.sched b k) ic+Sha.s1 (Sha.wAt (Sha.sched b k) id))%4294967296:Nat))).drew
 obtain rfl:ia=k-16:=by omega
 obtain rfl:ib=k-15:=by omega
 obtain rfl:ic=k-7:=by omega
 obtain rfl:id=k-2:=by omega
 rw[u32V_set _ _ _ _ (Sha.sched_len b k) (by omega),sched_hi b k h16] at this
 exact this
set_option maxHeartbeats 1600000 in
theorem spread_any (b:List UInt8) (w:World) (hb:b.length=64):
  Calls Tryz.prog 134 #[.agg (u8V b).toArray] w fun e w'=>e = .returned (.agg (u32V (Sha.sched b 64)).toArray)∧Below w.heap.size w w':=by
 go_enter Tryz.func134,Tryz.ntmps134
 go_wp2
 go_loopw [4] (fun i wr=>∃ k:Nat,k≤16∧i = .int .i64 k∧Blk wr w.heap.size 163 (u8V b)∧Blk wr (w.heap.size+1) 187 (u32V (zeros32 64))∧Blk wr (w.heap.size+1+1) 187 (u32V (Sha.sched b k++zeros32 (64-k)))∧Below w.heap.size w wr) (fun i _=>16-(intOf i).toNat)
 case atStart=>
  refine ⟨0,by omega,rfl,?_,?_,?_,?_⟩
  ·exact ((Blk.new rfl rfl).alloc _).alloc _
  ·exact (Blk.new (by simp) rfl).alloc _
  ·exact (Blk.new (by simp) rfl)
  ·exact (((Below.refl _ _).alloc (Nat.le_refl _) _).alloc (by simp) _).alloc (by simp;omega) _
 case round=>
  obtain ⟨k,hk,rfl,hB0,hB1,hB2,hbe⟩:=hrel
  by_cases hlt:k<16
  ·have c0:=hB0.cell (u8V_at b (4*k) (by omega))
   have c1:=hB0.cell (u8V_at b (4*k+1) (by omega))
   have c2:=hB0.cell (u8V_at b (4*k+2) (by omega))
   have c3:=hB0.cell (u8V_at b (4*k+3) (by omega))
   have f2:=hB2.frozen k
   have c4:=hB2.cell (u32V_new (Sha.sched b k) (64-k) k (Sha.sched_len b k) (by omega))
   have i0:(0:Int)≤4*(k:Int):=by omega
   have i1:4*(k:Int)<64:=by omega
   have i2:(0:Int)≤4*(k:Int)+1:=by omega
   have i3:4*(k:Int)+1<64:=by omega
   have i4:(0:Int)≤4*(k:Int)+2:=by omega
   have i5:4*(k:Int)+2<64:=by omega
   have i6:(0:Int)≤4*(k:Int)+3:=by omega
   have i7:4*(k:Int)+3<64:=by omega
   have n0:(4*(k:Int)).toNat=4*k:=by omega
   have n1:(4*(k:Int)+1).toNat=4*k+1:=by omega
   have n2:(4*(k:Int)+2).toNat=4*k+2:=by omega
   have n3:(4*(k:Int)+3).toNat=4*k+3:=by omega
   have j0:(k:Int)<64:=by omega
   have q0:IntKind.i64.wrap (4*(k:Int))=4*(k:Int):=IntWalk.i64_in _ (by omega)
   have q1:IntKind.i64.wrap (4*(k:Int)+1)=4*(k:Int)+1:=IntWalk.i64_in _ (by omega)
   have q2:IntKind.i64.wrap (4*(k:Int)+2)=4*(k:Int)+2:=IntWalk.i64_in _ (by omega)
   have q3:IntKind.i64.wrap (4*(k:Int)+3)=4*(k:Int)+3:=IntWalk.i64_in _ (by omega)
   go_wp2
   go_region_held3 (fun w'=>w'.cell? ⟨w.heap.size,4*k,none⟩=some (.int .u8 (Sha.by8 b (4*k):Nat))∧w'.cell? ⟨w.heap.size,4*k+1,none⟩=some (.int .u8 (Sha.by8 b (4*k+1):Nat))∧w'.cell? ⟨w.heap.size,4*k+2,none⟩=some (.int .u8 (Sha.by8 b (4*k+2):Nat))∧w'.cell? ⟨w.heap.size,4*k+3,none⟩=some (.int .u8 (Sha.by8 b (4*k+3):Nat))) (first | (go_keep;done) | (refine ⟨?_,?_,?_,?_⟩ <;> (rw[cell_other];(first | exact c0 | exact c1 | exact c2 | exact c3);(dsimp only;omega)))) (fail)
   go_wp2
   go_roundw
   case rel=>exact ⟨k+1,by omega,by go_num,spread_lo b w wr k _ hlt (be_int b k) hB0 hB1 hB2 hbe⟩
   case measure=>simp[intOf];omega
  ·have h16:k=16:=by omega
   rw[h16] at hB2
   clear h16
   go_wp2
   go_loopw [5] (fun i wr=>∃ k:Nat,16≤k∧k≤64∧i = .int .i64 k∧Blk wr (w.heap.size+1) 187 (u32V (zeros32 64))∧Blk wr (w.heap.size+1+1) 187 (u32V (Sha.sched b k++zeros32 (64-k)))∧Below w.heap.size w wr) (fun i _=>64-(intOf i).toNat)
   case atStart=>exact ⟨16,by omega,by omega,rfl,hB1,hB2,hbe⟩
   case round=>
    clear hB0 hB1 hB2 hbe hlt hk
    obtain ⟨k,hk0,hk,rfl,hB1,hB2,hbe⟩:=hrel
    by_cases hlt:k<64
    ·obtain ⟨ia,hia⟩:∃ a:Nat,a+16=k:=⟨k-16,by omega⟩
     obtain ⟨ib,hib⟩:∃ a:Nat,a+15=k:=⟨k-15,by omega⟩
     obtain ⟨ic,hic⟩:∃ a:Nat,a+7=k:=⟨k-7,by omega⟩
     obtain ⟨id,hid⟩:∃ a:Nat,a+2=k:=⟨k-2,by omega⟩
     have c0:=hB2.cell (u32V_at (Sha.sched b k) (64-k) ia (by rw[Sha.sched_len];omega))
     have c1:=hB2.cell (u32V_at (Sha.sched b k) (64-k) ib (by rw[Sha.sched_len];omega))
     have c2:=hB2.cell (u32V_at (Sha.sched b k) (64-k) ic (by rw[Sha.sched_len];omega))
     have c3:=hB2.cell (u32V_at (Sha.sched b k) (64-k) id (by rw[Sha.sched_len];omega))
     have f2:=hB2.frozen k
     have c4:=hB2.cell (u32V_new (Sha.sched b k) (64-k) k (Sha.sched_len b k) (by omega))
     have i1:(ia:Int)<64:=by omega
     have i3:(ib:Int)<64:=by omega
     have i5:(ic:Int)<64:=by omega
     have i7:(id:Int)<64:=by omega
     have j0:(k:Int)<64:=by omega
     have na:k≠ia:=by omega
     have nb:k≠ib:=by omega
     have nc:k≠ic:=by omega
     have nd:k≠id:=by omega
     have q0:IntKind.i64.wrap ((k:Int)-16)=(ia:Int):=(IntWalk.i64_in _ (by omega)).trans (by omega)
     have q1:IntKind.i64.wrap ((k:Int)-15)=(ib:Int):=(IntWalk.i64_in _ (by omega)).trans (by omega)
     have q2:IntKind.i64.wrap ((k:Int)-7)=(ic:Int):=(IntWalk.i64_in _ (by omega)).trans (by omega)
     have q3:IntKind.i64.wrap ((k:Int)-2)=(id:Int):=(IntWalk.i64_in _ (by omega)).trans (by omega)
     have R:=spread_hi b w wr k ia ib ic id (by omega) hlt hia hib hic hid hB1 hB2 hbe
     have HR:=hide R
     clear R hia hib hic hid
     go_wp2
     go_region_held3 (fun w'=>w'.cell? ⟨w.heap.size+1+1,ia,none⟩=some (.int .u32 (Sha.wAt (Sha.sched b k) ia:Nat))∧w'.cell? ⟨w.heap.size+1+1,ib,none⟩=some (.int .u32 (Sha.wAt (Sha.sched b k) ib:Nat))∧w'.cell? ⟨w.heap.size+1+1,ic,none⟩=some (.int .u32 (Sha.wAt (Sha.sched b k) ic:Nat))∧w'.cell? ⟨w.heap.size+1+1,id,none⟩=some (.int .u32 (Sha.wAt (Sha.sched b k) id:Nat))) (refine ⟨?_,?_,?_,?_⟩ <;> first | assumption | (rw[cell_off _ _ _ _ _ (by assumption)];assumption)) (first | (go_at_call 138;refine (smallS_any _ _ ?_).mono ?_;exact Sha.wAt_sched_lt b k _;rintro e w' ⟨rfl,rfl⟩) | (go_at_call 139;refine (smallZ_any _ _ ?_).mono ?_;exact Sha.wAt_sched_lt b k _;rintro e w' ⟨rfl,rfl⟩))
     go_wp2
     go_roundw
     case rel=>exact ⟨k+1,by omega,by omega,by go_num,HR.out _ (by omega)⟩
     case measure=>simp[intOf];omega
    ·obtain rfl:k=64:=by omega
     have hr:wr.rangeAt (w.heap.size+1+1) 0 (u32V (Sha.sched b 64)):=by simpa [zeros32] using hB2.rangeAll
     have ht:wr.there (w.heap.size+1) 0 (u32V (Sha.sched b 64)).toArray.size:=hB1.there 0 _ (by simp[u32V,zeros32,Sha.sched_len])
     have HR:=hide hr
     have HT:=hide ht
     clear hr ht
     go_wp2_with (first | (refine wpList_load_mid rfl 187 (.tmp 3) rfl (w.heap.size+1+1) 0 rfl (u32V (Sha.sched b 64)) (.array 64 150) HR.out Tryz.underlying187 rfl (by kernel_rfl) ?_) | (refine wpList_store_mid rfl 187 (.tmp 2) (.tmp 68) rfl (w.heap.size+1) 0 (u32V (Sha.sched b 64)).toArray rfl rfl HT.out (by kernel_rfl) (all_oneCell_toArray (u32V_one _)) ?_))
     have hst:(wr.setCells (w.heap.size+1) 0 (u32V (Sha.sched b 64))).rangeAt (w.heap.size+1) 0 (u32V (Sha.sched b 64)):=World.rangeAt_setCells_same _ _ _ _ (by simpa using HT.out)
     exact ret_row Tryz.results134 (w.heap.size+1) 0 rfl (u32V (Sha.sched b 64)) (.array 64 150) hst Tryz.underlying187 rfl (by kernel_rfl) rfl ⟨rfl,Below.setCells _ (by omega) _ _ _ hbe⟩
def KTab (w:World):Prop:=∀ i,i<64→w.cell? ⟨1,i,none⟩=some (.int .u32 (Sha.wAt Sha.Kt i:Nat))
def HTab (w:World):Prop:=∀ i,i<8→w.cell? ⟨0,i,none⟩=some (.int .u32 (Sha.wAt Sha.H0.list i:Nat))
theorem KTab.below {w w':World} {B:Nat} (h:KTab w) (hb:Below B w w') (hB:2≤B):KTab w':=fun i hi=>(hb.cell (show 1<B by omega)).trans (h i hi)
theorem KTab.grown {w w':World} {b:Nat} (h:KTab w) (hb:w.grownBy w' (some b)) (h2:2≤b) (hs:2≤w.heap.size):KTab w':=fun i hi=>
 (World.cell?_of_block (hb.block 1 (by omega) (by simp;omega))).trans (h i hi)
theorem HTab.below {w w':World} {B:Nat} (h:HTab w) (hb:Below B w w') (hB:2≤B):HTab w':=fun i hi=>(hb.cell (show 0<B by omega)).trans (h i hi)
def st8 (s:Sha.St):Array Value:=#[.int .u32 (s.a:Nat),.int .u32 (s.b:Nat),.int .u32 (s.c:Nat),.int .u32 (s.d:Nat),.int .u32 (s.e:Nat),.int .u32 (s.f:Nat),.int .u32 (s.g:Nat),.int .u32 (s.h:Nat)]
theorem u32V_in (l:List Nat) (i:Nat) (hi:i<l.length):(u32V l)[i]? = some (.int .u32 (Sha.wAt l i:Nat)):=by
 simp[u32V,Sha.wAt,hi]
theorem mix_round (s:Sha.St) (ws:List Nat) (k:Nat):Sha.rnds ws s (k+1)=Sha.rnd (Sha.wAt Sha.Kt k) (Sha.wAt ws k) (Sha.rnds ws s k):=rfl
theorem rnd_a (k w:Nat) (r:Sha.St):((((r.h:Int)+(Sha.b1 r.e:Nat)+(Sha.ch r.e r.f r.g:Nat)+(k:Nat)+(w:Nat))%4294967296+((Sha.b0 r.a:Nat)+(Sha.maj r.a r.b r.c:Nat):Int)%4294967296)%4294967296:Int)=((Sha.rnd k w r).a:Nat):=by
 simp only[Sha.rnd];omega
theorem rnd_e (k w:Nat) (r:Sha.St):(((r.d:Int)+((r.h:Int)+(Sha.b1 r.e:Nat)+(Sha.ch r.e r.f r.g:Nat)+(k:Nat)+(w:Nat))%4294967296)%4294967296:Int)=((Sha.rnd k w r).e:Nat):=by
 simp only[Sha.rnd];omega
theorem add8 (s r:Sha.St) : #[Value.int .u32 (((s.a:Int)+(r.a:Int))%4294967296),.int .u32 (((s.b:Int)+(r.b:Int))%4294967296),.int .u32 (((s.c:Int)+(r.c:Int))%4294967296),.int .u32 (((s.d:Int)+(r.d:Int))%4294967296),.int .u32 (((s.e:Int)+(r.e:Int))%4294967296),.int .u32 (((s.f:Int)+(r.f:Int))%4294967296),.int .u32 (((s.g:Int)+(r.g:Int))%4294967296),.int .u32 (((s.h:Int)+(r.h:Int))%4294967296)]=st8 (Sha.addSt s r):=by
 have e (x y:Nat):((x:Int)+(y:Int))%4294967296=((x+y)%4294967296:Nat):=by omega
 simp only[e]
 rfl
set_option maxHeartbeats 1600000 in
theorem mix_any (s:Sha.St) (ws:List Nat) (w:World) (hs:s.ok) (hw:ws.length=64) (hk:KTab w) (hB:2≤w.heap.size):
  Calls Tryz.prog 135 #[.agg (st8 s),.agg (u32V ws).toArray] w fun e w'=>e = .returned (.agg (st8 (Sha.addSt s (Sha.rnds ws s 64))))∧Below w.heap.size w w':=by
 unfold st8
 go_enter Tryz.func135,Tryz.ntmps135
 go_wp2
 go_loopw [5,6,7,8,9,10,11,12,13] (fun a b c d e f g h t wr=>∃ k:Nat,k≤64∧t = .int .i64 k∧a = .int .u32 ((Sha.rnds ws s k).a:Nat)∧b = .int .u32 ((Sha.rnds ws s k).b:Nat)∧c = .int .u32 ((Sha.rnds ws s k).c:Nat)∧d = .int .u32 ((Sha.rnds ws s k).d:Nat)∧e = .int .u32 ((Sha.rnds ws s k).e:Nat)∧f = .int .u32 ((Sha.rnds ws s k).f:Nat)∧g = .int .u32 ((Sha.rnds ws s k).g:Nat)∧h = .int .u32 ((Sha.rnds ws s k).h:Nat)∧Blk wr w.heap.size 169 (u32V s.list)∧Blk wr (w.heap.size+1) 187 (u32V ws)∧Blk wr (w.heap.size+1+1) 169 (u32V (zeros32 8))∧Below w.heap.size w wr) (fun _ _ _ _ _ _ _ _ t _=>64-(intOf t).toNat)
 case atStart=>
  refine ⟨0,by omega,rfl,rfl,rfl,rfl,rfl,rfl,rfl,rfl,rfl,?_,?_,?_,?_⟩
  ·exact ((Blk.new rfl rfl).alloc _).alloc _
  ·exact (Blk.new (by simp) rfl).alloc _
  ·exact (Blk.new (by simp) rfl)
  ·exact (((Below.refl _ _).alloc (Nat.le_refl _) _).alloc (by simp) _).alloc (by simp;omega) _
 case round=>
  obtain ⟨k,hk',rfl,rfl,rfl,rfl,rfl,rfl,rfl,rfl,rfl,hB0,hB1,hB2,hbe⟩:=hrel
  have ok:=Sha.rnds_ok ws s k hs
  by_cases hlt:k<64
  ·have c0:=hk.below hbe hB k hlt
   have c1:=hB1.cell (u32V_in ws k (by omega))
   have j0:(k:Int)<64:=by omega
   have R:=mix_round s ws k
   generalize hr:Sha.rnds ws s k=r at *
   have HR:=hide R
   clear R hr
   go_wp2
   go_quiet ((first | (go_at_call 140;exact Calls.quiet_of_same (bigS_any _ _ ok.e)) | (go_at_call 141;exact Calls.quiet_of_same (choice_any _ _ _ _ ok.e ok.f ok.g))))
   go_wp2_with fail
   refine (bigZ_any _ _ ok.a).mono ?_
   rintro e w' ⟨rfl,rfl⟩
   go_wp2_with fail
   refine (majority_any _ _ _ _ ok.a ok.b ok.c).mono ?_
   rintro e w' ⟨rfl,rfl⟩
   go_wp2
   go_roundw
   case rel=>
    refine ⟨k+1,by omega,by go_num,?_⟩
    rw[HR.out]
    refine ⟨int_c ?_,rfl,rfl,rfl,int_c ?_,rfl,rfl,rfl,hB0.drewN _,hB1.drewN _,hB2.drewN _,below_drewN hbe _⟩
    ·exact rnd_a _ _ r
    ·exact rnd_e _ _ r
   case measure=>simp[intOf];omega
  ·have h64:k=64:=by omega
   have c0:=hB0.cell (i:=0) rfl
   have c1:=hB0.cell (i:=1) rfl
   have c2:=hB0.cell (i:=2) rfl
   have c3:=hB0.cell (i:=3) rfl
   have c4:=hB0.cell (i:=4) rfl
   have c5:=hB0.cell (i:=5) rfl
   have c6:=hB0.cell (i:=6) rfl
   have c7:=hB0.cell (i:=7) rfl
   rw[h64] at ok ⊢
   clear h64
   generalize hr:Sha.rnds ws s 64=r at *
   have HR:=hide hr
   clear hr
   have d0:=hB2.cell (i:=0) rfl
   have d1:=hB2.cell (i:=1) rfl
   have d2:=hB2.cell (i:=2) rfl
   have d3:=hB2.cell (i:=3) rfl
   have d4:=hB2.cell (i:=4) rfl
   have d5:=hB2.cell (i:=5) rfl
   have d6:=hB2.cell (i:=6) rfl
   have d7:=hB2.cell (i:=7) rfl
   have hf:=hB2.frozen
   go_wp2
   have hfin:=(((((((hB2.setCell_same 0 (.int .u32 (((s.a:Int)+(r.a:Int))%4294967296))).setCell_same 1 (.int .u32 (((s.b:Int)+(r.b:Int))%4294967296))).setCell_same 2 (.int .u32 (((s.c:Int)+(r.c:Int))%4294967296))).setCell_same 3 (.int .u32 (((s.d:Int)+(r.d:Int))%4294967296))).setCell_same 4 (.int .u32 (((s.e:Int)+(r.e:Int))%4294967296))).setCell_same 5 (.int .u32 (((s.f:Int)+(r.f:Int))%4294967296))).setCell_same 6 (.int .u32 (((s.g:Int)+(r.g:Int))%4294967296))).setCell_same 7 (.int .u32 (((s.h:Int)+(r.h:Int))%4294967296))
   refine ret_row Tryz.results135 (w.heap.size+1+1) 0 rfl _ (.array 8 150) hfin.rangeAll Tryz.underlying169 rfl (by kernel_rfl) rfl ⟨?_,?_⟩
   ·rw[HR.out]
    exact congrArg (fun x=>Ending.returned (.agg x)) (add8 s r)
   ·exact (((((((hbe.setCell (by simp;omega) _).setCell (by simp;omega) _).setCell (by simp;omega) _).setCell (by simp;omega) _).setCell (by simp;omega) _).setCell (by simp;omega) _).setCell (by simp;omega) _).setCell (by simp;omega) _
end Go.Proofs.YtoifalcpfnacnaaGreatDoor
