/- Texts. -/
import Derived.Test.YtgnplpmgkegcnaaGreatRows
import Derived.Test.YtgnplpmgkegcnaaGreatW01
set_option maxRecDepth 100000
set_option maxHeartbeats 12800000
namespace Go.Proofs.YtgnplpmgkegcnaaGreat
open Go.RowKit Kit
theorem Tryz.info5:(Tryz.prog.info? 5).map (fun i=>(i.zero,i.size,i.bytes))=some (some (.int .u8 0),1,1):=by kernel_rfl
theorem vb_big{n f m:Nat}{pre:List UInt8}(h:127<m)(hv:vb n=pre++vbF (f+1) m):vb n=(pre++[hiB m])++vbF f (m/128):=by
 rw[hv,ziq f m h];simp
theorem vb_small{n f m:Nat}{pre:List UInt8}(h:m<=127)(hv:vb n=pre++vbF f m):pre++[loB m]=vb n:=by
 rw[hv,zdm f m h]
theorem byte_big(m:Nat):(m:Int)%128+128=((hiB m).toNat:Int):=by
 simp[hiB,UInt8.toNat_ofNat'];omega
theorem zf4(m:Nat)(h:m<=127):(m:Int)=((loB m).toNat:Int):=by
 simp[loB,UInt8.toNat_ofNat'];omega
theorem zkh(n:Int)(w:Wd)(h0:0<=n)(h1:n<=1000000000):
  Calls Tryz.prog 167 #[nI n] w fun e w'=>e=.returned (.string ⟨(vb n.toNat).toArray⟩)/\Bw w w':=by
 go_enter Tryz.func167,Tryz.ntmps167
 go_wp2;go_loopw [0,3] (fun x v wr=>∃(f m:Nat)(pre:List UInt8),x=.int .i64 m/\(m:Int)<=1000000000/\m<128 ^ (f+1)/\pre.length+f=9/\vb n.toNat=pre++vbF f m/\Owns wr w.1.size 5 v pre/\Bw w wr) (fun x _ _=>(intOf x).toNat)
 case atStart =>
  exact⟨9,n.toNat,[],by rw[Int.toNat_of_nonneg h0],oM,oM,rfl,rfl,Owns.lit0 w _ 5 nR,bR.alloc nR _⟩
 obtain⟨f,m,pre,rfl,hm,hf,hp,HV,aB,hb⟩:=hrel;have aC:Hid (vb n.toNat=pre++vbF f m):=HV;clear HV;have aD:=hb.size;by_cases hlt:127<m
 ·go_wp2_with (at_builtin;refine zb4 w rfl _ _ 22 rfl w.1.size 5 Tryz.underlying22 Tryz.info5 _ pre rfl (aB.alloc _) (hb.alloc aD _) ?c1 wr.1.size rfl (hiB m) ((m:Int)%128+128) (byte_big m) ?c2 ?c3 ?_)
  case c1=>simp;omega
  case c2=>simp
  case c3=>omega
  intro v' w1 R1 R2 _
  cases f with
  | zero=>simp at hf;omega
  | succ f =>
  clear aB;go_wp2;go_roundw
  case rel=>exact⟨f,m/128,pre++[hiB m],gK,oM,by rw[Nat.pow_succ]at hf;omega,sO,vb_big hlt aC.o,R1,R2⟩
  simp[intOf];omega
 go_wp2_with (at_builtin;refine zb4 w rfl _ _ 22 rfl w.1.size 5 Tryz.underlying22 Tryz.info5 _ pre rfl (aB.alloc _) (hb.alloc aD _) ?d1 wr.1.size rfl (loB m) (m:Int) (zf4 m oM) ?d2 ?d3 ?_)
 case d1=>simp;omega
 case d2=>simp
 case d3=>omega
 intro v' w1 R1 R2 _;have aF:=zev (P:=Tryz.prog) 22 9 5 Tryz.underlying22 Tryz.underlying5 Tryz.underlying9 R1;have e:=vb_small oM aC.o;rw[e]at aF;clear aB R1 e;go_wp2;go_ret;exact⟨rfl,R2⟩
def zbt(n:Nat):ByteArray:=⟨(vb n).toArray⟩
theorem ziw(n:Nat):(zbt n).size<=10:=by
 have:=vbF_len 9 n;simp only[zbt,ByteArray.size,vb,List.size_toArray];omega
theorem zcf(n:Int)(w:Wd)(h0:0<=n)(h1:n<=1000000000):
  Calls Tryz.prog 167 #[nI n] w fun e w'=>e=.returned (.string (zbt n.toNat))/\Bw w w':=zkh n w h0 h1
def rdVal(s:BA)(p:Nat):Value:=match rd s p with
 | none=>.tuple #[nI 0,nI 0,.bool false]
 | some (n,c)=>.tuple #[nI n,nI (p+c:Nat),.bool true]
theorem zda{s:BA}{p:Nat}(h:rd s p=none):rdVal s p=.tuple #[nI 0,nI 0,.bool false]:=by simp[rdVal,h]
theorem zf7{s:BA}{p n c:Nat}(h:rd s p=some (n,c)):rdVal s p=.tuple #[nI n,nI (p+c:Nat),.bool true]:=by simp[rdVal,h]
theorem pow_le{k:Nat}(h:k<5):128 ^ k<=268435456:=by
 have:128 ^ k<=128 ^ 4:=Nat.pow_le_pow_right dC oM;simpa using this
theorem zl4{s:BA}{p k m W c:Nat}(h:AtK s p k m)(hW:W=128 ^ k)(hlt:p+k<s.size)(h5:k<5)(hc:(s[p+k]).toNat=c)(h1:127<c):
  AtK s p (k+1) (m+c%128*W)/\m+c%128*W<W*128:=by
 subst hW hc;have hn:=h.next hlt h5 oM;exact⟨hn,by have:=hn.lt;rwa[Nat.pow_succ]at this⟩
theorem zl5{s:BA}{p k m W c:Nat}(h:AtK s p k m)(hW:W=128 ^ k)(hlt:p+k<s.size)(h5:k<5)(hc:(s[p+k]).toNat=c)(h1:c<=127)(h2:1000000000<m+c%128*W\/(c=0/\0<k)):
  rdVal s p=.tuple #[nI 0,nI 0,.bool false]:=by
 subst hW hc;refine zda ?_;rw[h.stop hlt h5 oM,if_pos h2]
theorem at_some{s:BA}{p k m W c:Nat}(h:AtK s p k m)(hW:W=128 ^ k)(hlt:p+k<s.size)(h5:k<5)(hc:(s[p+k]).toNat=c)(h1:c<=127)(h2:¬(1000000000<m+c%128*W\/(c=0/\0<k))):
  rdVal s p=.tuple #[nI ((m:Int)+(c:Int)%128*(W:Int)),nI ((p:Int)+(k:Int)+1),.bool true]:=by
 subst hW hc;have e:=h.stop hlt h5 oM;rw[if_neg h2]at e;rw[zf7 e];have e1:((m+(s[p+k]).toNat%128*128 ^ k:Nat):Int)=(m:Int)+((s[p+k]).toNat:Int)%128*((128 ^ k:Nat):Int):=by
  rw[Int.natCast_add,Int.natCast_mul,Int.natCast_emod];rfl
 rw[e1];simp only[Int.natCast_add];rw[show(p:Int)+((k:Int)+((1:Nat):Int))=(p:Int)+(k:Int)+1 by omega]
theorem cast3(m c W:Nat):((m+c%128*W:Nat):Int)=(m:Int)+(c:Int)%128*(W:Int):=sI
theorem form_eq{s:BA}{p k m W c:Nat}(h:AtK s p k m)(hW:W=128 ^ k)(hlt:p+k<s.size)(h5:k<5)(hc:(s[p+k]).toNat=c)(h1:c<=127):
  zbt (m+c%128*W)=s.extract p (p+k+1)↔¬(c=0/\0<k):=by
 subst hW hc;rw[←h.form hlt h5 oM];constructor
 ·intro e;rw[←e];rfl
 intro e;unfold zbt;rw[e]
theorem toNat3(p k:Nat):((p:Int)+(k:Int)+1).toNat=p+k+1:=oM
theorem form_no{s:BA}{p k T c m W:Nat}(hT:m+c%128*W=T)(hf:zbt (m+c%128*W)=s.extract p (p+k+1)↔¬(c=0/\0<k))(h:(!(zbt T).toList==(s.extract p ((p:Int)+(k:Int)+1).toNat).toList)=true):c=0/\0<k:=by
 rw[hT]at hf;rw[toNat3]at h;apply Classical.byContradiction;intro hn;rw[hf.2 hn]at h;simp at h
theorem form_yes{s:BA}{p k T c m W:Nat}(hT:m+c%128*W=T)(hf:zbt (m+c%128*W)=s.extract p (p+k+1)↔¬(c=0/\0<k))(h:(!(zbt T).toList==(s.extract p ((p:Int)+(k:Int)+1).toNat).toList)=false):¬(c=0/\0<k):=by
 rw[hT]at hf;rw[toNat3]at h;refine hf.1 ?_;have h1:(zbt T).toList=(s.extract p (p+k+1)).toList:=by simpa using h
 rw[ByteArray.toList_eq,ByteArray.toList_eq]at h1;exact Go.WideShapes.bytes_inj h1
theorem zac{w w1:Wd}(h:Bw w.drew w1):Bw w w1:=(bF _ w).drew.trans h
theorem zdd{x:Int}(h0:0<=x)(h1:x<=1000000000000):IntKind.i64.wrap x=x:=by
 simp[IntKind.wrap,IntKind.signed,IntKind.bits];omega
theorem zl6(f:Nat):∀(rest:List UInt8)(k n m c:Nat),rdF f rest k n=some (m,c)->m<=1000000000/\c<=k+rest.length:=by
 induction f with
 | zero=>intro rest k n m c h;simp[rdF]at h
 | succ f ih =>
  intro rest k n m c h
  cases rest with
  | nil=>simp[rdF]at h
  | cons b r =>
   rw[rdF]at h
   split at h
   ·have:=ih _ _ _ _ _ h;simp only[lC];omega
   split at h
   ·cases h
   simp only[oJ,Prod.mk.injEq]at h;simp only[lC];omega
theorem rd_bound{s:BA}{p n c:Nat}(hp:p<=s.size)(h:rd s p=some (n,c)):n<=1000000000/\p+c<=s.size:=by
 have:=zl6 5 _ 0 0 n c h;have h2:s.data.toList.length=s.size:=sI
 rw[List.length_drop,h2]at this;omega
def rsVal(s:BA)(p:Nat):Value:=match rd s p with
 | none=>.tuple #[.string ⟨#[]⟩,nI 0,.bool false]
 | some (n,c)=>if 20000<n\/s.size-(p+c)<n then .tuple #[.string ⟨#[]⟩,nI 0,.bool false]
   else .tuple #[.string (s.extract (p+c) (p+c+n)),nI (p+c+n:Nat),.bool true]
theorem zki{s:BA}{p:Nat}(h:rd s p=none):rsVal s p=.tuple #[eT,nI 0,.bool false]:=by simp[rsVal,h]
theorem zl7{s:BA}{p n c:Nat}(h:rd s p=some (n,c))(h1:20000<n\/s.size-(p+c)<n):rsVal s p=.tuple #[eT,nI 0,.bool false]:=by simp[rsVal,h,h1]
theorem zkj{s:BA}{p n c:Nat}(h:rd s p=some (n,c))(h1:¬(20000<n\/s.size-(p+c)<n)):rsVal s p=.tuple #[.string (s.extract (p+c) (p+c+n)),nI (p+c+n:Nat),.bool true]:=by simp[rsVal,h,h1]
namespace Kit
def chN(c:Nat):Bool:=decide ((97<=c/\c<=122)\/(48<=c/\c<=57))
def zat(s:BA):Bool:=decide ((1<=s.size/\s.size<=6)/\∀(j:Nat)(h:j<s.size),chN (s[j]).toNat=true)
theorem zkk{s:BA}(h:s.size<1\/6<s.size):false=zat s:=by
 unfold zat;exact(dF oM).symm
theorem zkl{s:BA}{j c:Nat}(h:j<s.size)(hc:(s[j]).toNat=c)(hb:¬((97<=c/\c<=122)\/(48<=c/\c<=57))):false=zat s:=by
 unfold zat;refine(dF ?_).symm;rintro⟨_,h2⟩;have:=h2 j h;rw[hc]at this;exact hb (of_decide_eq_true this)
theorem zkm{s:BA}(h:1<=s.size/\s.size<=6)(ha:∀(j:Nat)(h:j<s.size),chN (s[j]).toNat=true):true=zat s:=by
 unfold zat;exact(dT ⟨h,ha⟩).symm
theorem za1{s:BA}(h:zat s=true):1<=s.size/\s.size<=6:=(of_decide_eq_true h).1
def upTo(s:BA)(j:Nat):Prop:=∀(i:Nat)(h:i<s.size),i<j->chN (s[i]).toNat=true
theorem zl8(s:BA):upTo s 0:=fun _ _ h=>absurd h (Nat.not_lt_zero _)
theorem zl9{s:BA}{j c:Nat}(hu:upTo s j)(h:j<s.size)(hc:(s[j]).toNat=c)(hg:(97<=c/\c<=122)\/(48<=c/\c<=57)):upTo s (j+1):=fun i hi aB=>by
 by_cases he:i=j
 ·subst he;rw[hc];exact dT hg
 ·exact hu i hi oM
theorem upTo_all{s:BA}{j:Nat}(hu:upTo s j)(h:s.size<=j):∀(j:Nat)(h:j<s.size),chN (s[j]).toNat=true:=fun i hi=>hu i hi oM
theorem zex{s:BA}(h:s.size=0):s.toList.isEmpty=true:=by
 rw[List.isEmpty_iff,ByteArray.toList_eq,←List.length_eq_zero_iff];exact h
theorem zbq{s:BA}(h:0<s.size):s.toList.isEmpty=false:=by
 exact cQ98
end Kit
theorem zca(s:BA)(w:Wd)(hs:s.size<=1048576):
  Calls Tryz.prog 165 #[.string s] w fun e w'=>e=.returned (.bool (zat s))/\Bw w w':=by
 obtain⟨r,hr⟩:∃r,zat s=r:=⟨_,rfl⟩
 have HR:=hJ hr;rw[hr];clear hr;go_enter Tryz.func165,Tryz.ntmps165
 go_wp2
 go_loop [3] (fun i=>∃j:Nat,j<=s.size/\i=.int .i64 j/\Hid (upTo s j)) (fun i=>s.size-(intOf i).toNat)
 case atStart=>exact⟨0,zL _,rfl,zl8 s⟩
 obtain⟨j,hj,rfl,HU⟩:=hrel;by_cases hlt:j<s.size
 ·obtain⟨c,hc⟩:∃c:Nat,(s[j]).toNat=c:=⟨_,rfl⟩
  have aB:c<256:=by rw[←hc];exact(s[j]).toNat_lt
  have HC:=hJ hc;have j0:(0:Int)<=(j:Int):=oM
  have j1:(j:Int)<(s.size:Int):=oM
  go_wp2
  all_goals first| (go_ret;refine⟨za3 ?_,bF _ _⟩;rw[←HR.o];exact zkl hlt HC.o oM)| skip
  all_goals go_round
  all_goals first| (simp[intOf];omega)| exact⟨j+1,oM,gK,zl9 HU.o hlt HC.o oM⟩
 go_wp2_with (go_at_call 50;refine(zak _ _ _ _).mono ?_;rintro e w1 ⟨rfl,rfl⟩)
 go_ret;refine⟨za3 ?_,bF _ _⟩;rw[←HR.o];by_cases h:1<=s.size/\s.size<=6
 ·rw[←zkm h (upTo_all HU.o oM)];simp[inB];omega
 rw[←zkk oM];simp[inB];omega
namespace fnExactNameOk
end fnExactNameOk
namespace Kit
def plF(name:BA):Nat->List Sl->Int
 | _,[]=>-1
 | k,s::r=>if s.1=name then(k:Int)else plF name (k+1) r
def zdw(xs:List Sl)(name:BA):Int:=if name.size=0 then -1 else plF name 0 xs
theorem zht(xs:List Sl){name:BA}(h:name.size=0):zdw xs name=-1:=if_pos h
theorem zhu(xs:List Sl){name:BA}(h:name.size≠0):zdw xs name=plF name 0 (xs.drop 0):=if_neg h
theorem pl_hit{R:Int}{xs:List Sl}{name:BA}{j:Nat}(h:j<xs.length)(hp:R=plF name j (xs.drop j))(hq:xs[j].1=name):R=(j:Int):=by
 rw[hp,dG h,plF,if_pos hq]
theorem pl_next{R:Int}{xs:List Sl}{name:BA}{j:Nat}(h:j<xs.length)(hp:R=plF name j (xs.drop j))(hq:¬xs[j].1=name):R=plF name (j+1) (xs.drop (j+1)):=by
 rw[hp,dG h,plF,if_neg hq]
theorem pl_end{R:Int}{xs:List Sl}{name:BA}{j:Nat}(h:xs.length<=j)(hp:R=plF name j (xs.drop j)):R=-1:=by
 rw[hp,List.drop_of_length_le h,plF]
theorem zgz{a b:BA}(h:a=b):(a.toList==b.toList)=true:=by rw[h];simp
theorem zbm{a b:BA}(h:¬a=b):(a.toList==b.toList)=false:=by
 exact cQ108
end Kit
namespace Kit
def zcu(s:Sl):Bool:=decide ((s.1.size=0/\s.2=0)\/(zat s.1=true/\1<=s.2/\s.2<=8))
theorem zfe{t:BA}{z:Int}(h:(t.size=0/\z=0)\/(zat t=true/\1<=z/\z<=8)):true=zcu (t,z):=(dT h).symm
theorem zhv{t:BA}{z:Int}(h:¬((t.size=0/\z=0)\/(zat t=true/\1<=z/\z<=8))):false=zcu (t,z):=(dF h).symm
end Kit
namespace Kit
def okF:List Sl->List Sl->Bool
 | _,[]=>true
 | ahead,s::r=>zcu s&&decide (zdw ahead s.1<0)&&okF (ahead++[s]) r
def zbb(xs:List Sl):Bool:=decide (xs.length=4)&&okF [] xs
def zao(d:Bool)(xs:List Sl)(t:BA):Bool:=if d then decide (t.size=0)&&zbb xs else decide (xs.length=0/\t.size<=16)
theorem ok_start{xs:List Sl}(h:xs.length=4):zbb xs=okF (xs.take 0) (xs.drop 0):=by simp[zbb,h]
theorem zjv{xs:List Sl}(h:xs.length≠4):zbb xs=false:=by simp[zbb,h]
theorem ok_next{R:Bool}{xs:List Sl}{j:Nat}(h:j<xs.length)(hp:R=okF (xs.take j) (xs.drop j))(h1:zcu xs[j]=true)(h2:zdw (xs.take j) xs[j].1<0):R=okF (xs.take (j+1)) (xs.drop (j+1)):=by
 rw[hp,dG h,okF,h1,dT h2,tS h];rfl
theorem ok_bad{R:Bool}{xs:List Sl}{j:Nat}(h:j<xs.length)(hp:R=okF (xs.take j) (xs.drop j))(h1:zcu xs[j]=false):R=false:=by
 rw[hp,dG h,okF,h1];rfl
theorem ok_twice{R:Bool}{xs:List Sl}{j:Nat}(h:j<xs.length)(hp:R=okF (xs.take j) (xs.drop j))(h2:¬zdw (xs.take j) xs[j].1<0):R=false:=by
 rw[hp,dG h,okF,dF h2];simp
theorem ok_end{R:Bool}{xs:List Sl}{j:Nat}(h:xs.length<=j)(hp:R=okF (xs.take j) (xs.drop j)):R=true:=by
 rw[hp,List.drop_of_length_le h,okF]
theorem RSl.take{w:Wd}{a:OA}{c:Nat}{xs:List Sl}(h:RSl w (.slice a xs.length c) xs)(j:Nat)(hj:j<=xs.length):RSl w (.slice a j c) (xs.take j):=by
 obtain⟨a',c',e,aC,h⟩:=h;simp only[vJ]at e;obtain⟨rfl,-,rfl⟩:=e;have hl:(xs.take j).length=j:=sO
 refine⟨a,c,by rw[hl],oM,fun i hi=>?_⟩;rw[hl]at hi;obtain⟨g,aB,e,hg,k1,k2⟩:=h i oM;exact⟨g,aB,e,hg,by simpa using k1,by simpa using k2⟩
end Kit
namespace Kit
theorem zb0(xs:List Sl)(t:BA)(h:t.size=0):zao true xs t=zbb xs:=by simp[zao,h]
theorem zel(xs:List Sl)(t:BA)(h:t.size≠0):zao true xs t=false:=by simp[zao,h]
theorem zb6(xs:List Sl)(t:BA):zao false xs t=decide (xs.length=0/\t.size<=16):=by simp[zao]
theorem zmf{xs:List Sl}{i j:Nat}(h:i<(xs.take j).length):(xs.take j)[i]=xs[i]'(by simp at h;omega):=sI
theorem pl_hit'{R:Int}{xs:List Sl}{name:BA}{j k:Nat}(h:k<j)(hx:j<xs.length)(hp:R=plF name k ((xs.take j).drop k))(hq:(xs[k]'oM).1=name):R=(k:Int) :=
 pl_hit sO hp (by rw[zmf];exact hq)
theorem pl_next'{R:Int}{xs:List Sl}{name:BA}{j k:Nat}(h:k<j)(hx:j<xs.length)(hp:R=plF name k ((xs.take j).drop k))(hq:¬(xs[k]'oM).1=name):R=plF name (k+1) ((xs.take j).drop (k+1)) :=
 pl_next sO hp (by rw[zmf];exact hq)
theorem pl_end'{R:Int}{xs:List Sl}{name:BA}{j k:Nat}(h:j<=k)(hp:R=plF name k ((xs.take j).drop k)):R=-1 :=
 pl_end sO hp
end Kit
theorem zhw(d:Bool)(v:Va)(t:BA)(xs:List Sl)(w:Wd)(hv:RSl w v xs)(h:d=false\/xs.length≠4\/t.size≠0):
  Calls Tryz.prog 135 #[.agg #[.bool d,v,.string t]] w fun e w'=>e=.returned (.bool (zao d xs t))/\Bw w w':=by
 cases d with
 | false =>
  rw[zb6];obtain⟨a,c,rfl,-⟩:=hv;generalize xs.length=n at*;by_cases h:n=0
  ·subst h;go_enter Tryz.func135,Tryz.ntmps135
   go_wp2;go_ret;exact⟨za3 sO,gW_⟩
  have h1:((n:Int)==0)=false:=sO
  go_enter Tryz.func135,Tryz.ntmps135
  go_wp2;go_ret;exact⟨za3 sI,gW_⟩
 | true =>
  have e1:zao true xs t=false:=by
   by_cases h2:t.size=0
   ·rw[zb0 xs t h2];exact zjv (by simpa[h2]using h)
   exact zel xs t h2
  rw[e1];obtain⟨a,c,rfl,-⟩:=hv;generalize xs.length=n at*;by_cases h4:n=4
  ·subst h4;have he:=zbq (s:=t) (by rcases h with h|h|h;cases h;exact absurd rfl h;omega);go_enter Tryz.func135,Tryz.ntmps135
   go_wp2;go_ret;exact⟨rfl,gW_⟩
  have h1:((n:Int) != 4)=true:=sO
  go_enter Tryz.func135,Tryz.ntmps135
  go_wp2;go_ret;exact⟨rfl,gW_⟩
theorem ziy(v:Va)(t0:BA)(xs:List Sl)(w:Wd)(hv:RSl w v xs)(hl:xs.length=4)(ht0:t0.size=0)(hbig:∀(j:Nat)(h:j<xs.length),xs[j].1.size<=1048576):
  Calls Tryz.prog 135 #[.agg #[.bool true,v,.string t0]] w fun e w'=>e=.returned (.bool (zbb xs))/\Bw w w':=by
 have HV:=hJ hv;have HG:=hJ hbig;obtain⟨a,c,rfl,aP,hc⟩:=hv;have HC:=hJ hc;have HL:=hJ hl;clear hc hbig;have HR:=hJ (ok_start hl);obtain⟨R,hR⟩:∃R,zbb xs=R:=⟨_,rfl⟩
 rw[hR]at HR ⊢;rw[hl]at HV aP ⊢;have bO:=zex ht0;clear hR hl ht0;go_enter Tryz.func135,Tryz.ntmps135
 go_wp2;go_loopw [3,4,5] (fun i _ _ wr=>∃j:Nat,j<=4/\i=.int .i64 j/\Hid (R=okF (xs.take j) (xs.drop j))/\Bw w wr/\AtC wr w.1.size 95 #[.bool true,.slice a 4 c,.string t0]) (fun i _ _ _=>4-(intOf i).toNat)
 case atStart=>exact⟨0,zL _,rfl,HR,(bF _ w).alloc nR _,AtC.new w 95 _⟩
 obtain⟨j,hj,rfl,HP,hb,aG⟩:=hrel;obtain⟨b0,b1,b2,bQ⟩:=aG.three;by_cases hlt:j<4
 ·have aC:j<xs.length:=by rw[HL.o];exact hlt
  obtain⟨g,aN,rfl,hg,k1,k2⟩:=HC.o j aC;have q1:=(hb.cell (p:=⟨g,aN+j*2,none⟩) hg).trans k1;have q2:=(hb.cell (p:=⟨g,aN+j*2+1,none⟩) hg).trans k2;have aX:=hb.size;have j0:(0:Int)<=(j:Int):=oM
  have j1:(j:Int)<4:=oM
  have C1:=hJ (fun W=>zca xs[j].1 W (HG.o j aC));have aB:=hJ (ok_bad aC HP.o);have aK:=hJ (ok_twice aC HP.o);have aD:=hJ (ok_next aC HP.o);obtain⟨t,ht⟩:∃t,xs[j].1=t:=⟨_,rfl⟩
  obtain⟨z,hz⟩:∃z,xs[j].2=z:=⟨_,rfl⟩
  have e1:xs[j]=(t,z):=by rw[←ht,←hz]
  rw[e1]at aB aD aK;rw[ht]at q1 C1;rw[hz]at q2;have aV:=hJ aG;have HB:=hJ hb;clear k1 k2 ht hz e1 hb HP aC aG;by_cases hA:t.size=0/\z=0
  ·obtain⟨hA,rfl⟩:=hA;have he:=zex hA;have HQ:=hJ (aD.o (zfe (.inl ⟨hA,rfl⟩)).symm (by rw[zht _ hA];decide));clear hA;go_wp2;go_roundw
   case rel=>exact⟨j+1,oM,gK,HQ,HB.o.alloc aX _,aV.o.alloc _⟩
   simp[intOf];omega
  have HA:=hJ hA;obtain⟨n,hn⟩:∃n,zat t=n:=⟨_,rfl⟩
  rw[hn]at C1;have HN:=hJ hn;have HE:Hid (∀(P:Prop) [Decidable P],True):=fun _=>trivial;have bI:=aV.o.alloc (.cells #[.string t,nI z] 90);have aY:=HB.o.alloc aX (.cells #[.string t,nI z] 90);have bC:=AtC.new wr 90 #[.string t,nI z];have bE:=hJ bI;have aH:=hJ aY;have aZ:=hJ bC;clear hn bI aY bC HE;by_cases hG:n=true/\1<=z/\z<=8
  ·obtain⟨rfl,z1,z8⟩:=hG;have bM:=(za1 HN.o).1;have he:=zbq (s:=t) oM;have zz:(z==0)=false:=sO
   have aL:inB z 1 8=true:=by simp[inB,z1,z8]
   have bK:=hJ (zfe (t:=t) (z:=z) (.inr ⟨HN.o,z1,z8⟩)).symm;have aF:=hJ (aD.o bK.o);have bH:=hJ (zhu (xs.take j) (name:=t) oM);obtain⟨r2,aS⟩:∃r,zdw (xs.take j) t=r:=⟨_,rfl⟩
   simp only[aS]at aF aK bH;clear aS hA aD aB;go_wp2_with (first| (go_at_call 165;refine(C1.out _).mono ?_;rintro e w1 ⟨rfl,B1⟩;obtain⟨s0,s1,sl⟩:=(aZ.o.over B1).two;obtain⟨d0,d1,d2,dl⟩:=(bE.o.over B1).three)| (go_at_call 50;refine(zak _ _ _ _).mono ?_;rintro e w1 ⟨rfl,rfl⟩))
   have aR:Bw w w1:=aH.o.trans (B1.mono sO);have aM:=hJ aR;have aT:=bE.o.over B1;have bJ:=hJ aT;clear aR aT B1 b0 b1 b2;go_loopw [5] (fun i wz=>∃k:Nat,k<=j/\i=.int .i64 k/\Hid (r2=plF t k ((xs.take j).drop k))/\∃q,wz=w1.drewN q) (fun i _=>j-(intOf i).toNat)
   case atStart=>exact⟨0,zL _,rfl,bH,0,rfl⟩
   obtain⟨k,hk,rfl,HK,q,rfl⟩:=hrel;by_cases hkj:k<j
   ·have aU:k<xs.length:=by rw[HL.o];omega
    obtain⟨g',bL,e',bP,m1,m2⟩:=HC.o k aU;simp only[oJ,aJ]at e';obtain⟨rfl,rfl,-⟩:=e';have n1:=(aM.o.cell (p:=⟨g,aN+k*2,none⟩) hg).trans m1;have aO:j<xs.length:=by rw[HL.o];exact hlt
    have aW:=hJ (pl_hit' hkj aO HK.o);have bG:=hJ (pl_next' hkj aO HK.o);obtain⟨t2,aQ⟩:∃t,xs[k].1=t:=⟨_,rfl⟩
    rw[aQ]at n1 aW bG;clear m1 m2 aQ aO aU q1 q2;have k0:(0:Int)<=(k:Int):=oM
    have k1:(k:Int)<4:=oM
    by_cases hq:t2=t
    ·have c1:=zgz hq;have HQ:=hJ (aK.o (by have:=aW.o hq;omega));clear hq;go_wp2;go_quiet(fail)
     go_wp2;go_ret;exact⟨za3 HQ.o.symm,bD (bD aM.o _) _⟩
    have c1:=zbm hq;have HQ:=hJ (bG.out hq);clear hq;go_wp2;go_quiet(fail)
    go_wp2;go_roundw
    case rel=>exact⟨k+1,oM,gK,HQ,_,rfl⟩
    simp[intOf];omega
   have HQ:=hJ (aF.o (by have:=pl_end' oM HK.o;omega));clear q1 q2;go_wp2;go_roundw
   case rel=>exact⟨j+1,oM,gK,HQ,bD aM.o _,bJ.o⟩
   simp[intOf];omega
  have HQ:=hJ (aB.o (zhv (t:=t) (z:=z) (by rintro(h|h);exact HA.o h;exact hG ⟨by rw[←HN.o];exact h.1,h.2⟩)).symm);have hE:(t.size=0/\(z==0)=false)\/0<t.size:=by
   by_cases h:t.size=0
   ·left;exact⟨h,by simp;intro hz;exact HA.o ⟨h,hz⟩⟩
   right;omega
  have aL:n=true->inB z 1 8=false:=fun h=>by simp[inB];intro h1;have:=hG;simp[h]at this;omega
  have HI:=hJ aL;have bN:=hJ hE;clear aL hE hA hG aB aD aK
  cases n with
  | false =>
   rcases bN.o with⟨h0,hz⟩| h0
   ·have he:=zex h0;clear h0;go_wp2_with (first| (go_at_call 165;refine(C1.out _).mono ?_;rintro e w1 ⟨rfl,B1⟩))
    go_ret;exact⟨za3 HQ.o.symm,aH.o.trans (B1.mono sO)⟩
   have he:=zbq h0;clear h0;go_wp2_with (first| (go_at_call 165;refine(C1.out _).mono ?_;rintro e w1 ⟨rfl,B1⟩))
   go_ret;exact⟨za3 HQ.o.symm,aH.o.trans (B1.mono sO)⟩
  | true =>
   have aL:=HI.o rfl;have bM:=(za1 HN.o).1;have he:=zbq (s:=t) oM;go_wp2_with (first| (go_at_call 165;refine(C1.out _).mono ?_;rintro e w1 ⟨rfl,B1⟩;obtain⟨s0,s1,sl⟩:=(aZ.o.over B1).two)| (go_at_call 50;refine(zak _ _ _ _).mono ?_;rintro e w1 ⟨rfl,rfl⟩))
   go_ret;exact⟨za3 HQ.o.symm,aH.o.trans (B1.mono sO)⟩
 have HH:=hJ (ok_end (by rw[HL.o];omega) HP.o);have HB:=hJ hb;clear hb aG;go_wp2;go_ret;exact⟨za3 HH.o.symm,HB.o⟩
theorem zb1(d:Bool)(v:Va)(t:BA)(xs:List Sl)(w:Wd)(hv:RSl w v xs)(hbig:∀(j:Nat)(h:j<xs.length),xs[j].1.size<=1048576):
  Calls Tryz.prog 135 #[.agg #[.bool d,v,.string t]] w fun e w'=>e=.returned (.bool (zao d xs t))/\Bw w w':=by
 by_cases h:d=false\/xs.length≠4\/t.size≠0
 ·exact zhw d v t xs w hv h
 simp only[not_or,Bool.not_eq_false,Decidable.not_not,ne_eq]at h;obtain⟨rfl,h4,h0⟩:=h;rw[zb0 xs t h0];exact ziy v t xs w hv h4 h0 hbig
namespace Kit
def enc(s:Sl):List UInt8:=loB s.2.toNat::(vb s.1.size++s.1.data.toList)
def encs:List Sl->List UInt8
 | []=>[]
 | s::r=>enc s++encs r
theorem zfh(a b:List Sl):encs (a++b)=encs a++encs b:=by
 induction a with
 | nil=>rfl
 | cons s r ih=>simp[encs,ih]
def pre(xs:List Sl)(j:Nat):List UInt8:=100::encs (xs.take j)
theorem pre_next(xs:List Sl)(j:Nat)(h:j<xs.length):pre xs (j+1)=(pre xs j++[loB xs[j].2.toNat])++(vb xs[j].1.size++xs[j].1.data.toList):=by
 unfold pre;rw[tS h,zfh];simp[encs,enc]
theorem pre_all(xs:List Sl)(j:Nat)(h:xs.length<=j):pre xs j=100::encs xs:=by
 unfold pre;rw[tL h]
def zbd(d:Bool)(xs:List Sl)(t:BA):ByteArray:=if zao d xs t then(if d then accB (100::encs xs)else oneB 116++t)else⟨#[]⟩
theorem zi2{s:Sl}(h:zcu s=true):0<=s.2/\s.2<=8/\s.1.size<=6:=by
 have h':=of_decide_eq_true h;rcases h' with h1|h1
 ·omega
 have:=za1 h1.1;omega
theorem okF_each(xs:List Sl):∀(aB:List Sl),okF aB xs=true->∀s∈xs,zcu s=true:=by
 induction xs with
 | nil=>intro _ _ s hs;simp at hs
 | cons x r ih =>
  intro aB h s hs;simp only[okF,aE]at h;rcases List.mem_cons.1 hs with rfl|h1
  ·exact h.1.1
  exact ih _ h.2 s h1
theorem zcv{xs:List Sl}(h:zbb xs=true):xs.length=4/\∀(j:Nat)(hj:j<xs.length),0<=xs[j].2/\xs[j].2<=8/\xs[j].1.size<=6:=by
 simp only[zbb,aE,decide_eq_true_eq]at h;exact⟨h.1,fun j hj=>zi2 (okF_each xs [] h.2 _ (gM_ hj))⟩
theorem vb_size{n:Nat}(h:n<=127):(vb n).length=1:=by rw[vb,zdm _ _ h];rfl
theorem zkt{s:Sl}(h:s.1.size<=6):(enc s).length<=8:=by
 simp only[enc,lC,lA,vb_size (show s.1.size<=127 by omega)];have:s.1.data.toList.length=s.1.size:=rfl;omega
theorem zfi(xs:List Sl):(∀s∈xs,s.1.size<=6)->(encs xs).length<=xs.length*8:=by
 induction xs with
 | nil=>intro _;simp[encs]
 | cons x r ih =>
  intro h;have h1:=ih (fun s hs=>h s (by simp[hs]));have h2:=zkt (h x sI);simp only[encs,lA,lC];omega
theorem zku{xs:List Sl}(h:zbb xs=true)(j:Nat):(pre xs j).length<=33:=by
 obtain⟨h4,hb⟩:=zcv h;have h1:=zfi (xs.take j) (fun s hs=>by
  obtain⟨i,hi,rfl⟩:=List.getElem_of_mem (List.mem_of_mem_take hs);exact(hb i hi).2.2)
 have h2:(xs.take j).length<=4:=sO
 simp only[pre,lC];omega
theorem zdi(a b:List UInt8):accB a++accB b=accB (a++b):=by
 unfold accB;rw[ByteArray.mk_append_mk]
theorem zh1(s:BA):accB s.data.toList=s:=by
 unfold accB;rw[show s.data.toList.toArray=s.data from Array.toArray_toList]
end Kit
namespace Kit
theorem Owns.one(w:Wd)(base:Nat)(e:TypeId)(b:UInt8)(hb:base<=w.1.size):Owns (w.alloc (.cells #[.int .u8 (b.toNat:Int)] e)) base e (.slice (aA w.1.size 0) 1 1) [b] :=
 World.ownsRow_lit w #[.int .u8 (b.toNat:Int)] 1 hb (by unfold maxLen;omega) rfl
theorem Owns.below{w w':Wd}{base B:Nat}{e:TypeId}{v:Va}{l:List UInt8}(h:Owns w base e v l)(hb:Below B w w')(hB:w.1.size<=B):Owns w' base e v l:=by
 refine⟨h.1,?_⟩;rcases h.2 with h1|⟨g,cap,cur,h1,h2,h3,h4⟩
 ·exact .inl h1
 have aB:=(Array.getElem?_eq_some_iff.1 h3).1;exact .inr ⟨g,cap,cur,h1,h2,by rw[hb.block g oM,h3],h4⟩
theorem Owns.accB{w:Wd}{base:Nat}{e:TypeId}{v:Va}{l:List UInt8}(h:Owns w base e v l){P:Program}(src dst:TypeId)(hs:P.underlying src=some (.slice e))(he:P.underlying e=some (.int .u8))(hd:P.underlying dst=some .string):(convert src dst v).run P w=.ok (.string (Kit.accB l)) w :=
 zev src dst e hs he hd h
end Kit
namespace Kit
end Kit
namespace fnExactNameOk
end fnExactNameOk
namespace Kit
end Kit
namespace Kit
theorem zdr{α:Type}(p:α->Bool):∀l:List α,∃f:Nat->Nat,(∀(j:Nat) (h:j<(l.filter p).length),∃h':f j<l.length,(l.filter p)[j]=l[f j]/\(l.take (f j)).filter p=(l.filter p).take j)/\∀i j,i<j->j<(l.filter p).length->f i<f j
 | []=>⟨fun _=>0,fun j h=>by simp at h,fun i j _ h=>by simp at h⟩
 | a::l=>by
  obtain⟨f,h1,h2⟩:=zdr p l;by_cases hp:p a=true
  ·refine⟨fun j=>match j with| 0=>0|j+1=>f j+1,fun j h=>?_,fun i j aB h=>?_⟩
   ·cases j with
    | zero=>exact⟨sI,by simp[hp],sI⟩
    | succ j =>
     simp only[List.filter_cons,hp,if_true,lC]at h;obtain⟨q1,q2,q3⟩:=h1 j oM;refine⟨by simpa using q1,?_,?_⟩
     ·simp only[List.filter_cons,hp,if_true,gC];exact q2
     ·simp only[List.take_succ_cons,List.filter_cons,hp,if_true,q3]
   ·simp only[List.filter_cons,hp,if_true,lC]at h
    cases j with
    | zero=>omega
    | succ j =>
     cases i with
     | zero=>simp
     | succ i =>
      have:=h2 i j oM oM;simp only;omega
  ·refine⟨fun j=>f j+1,fun j h=>?_,fun i j aB h=>?_⟩
   ·simp only[List.filter_cons,hp,Bool.false_eq_true,if_false]at h;obtain⟨q1,q2,q3⟩:=h1 j h;refine⟨by simpa using q1,?_,?_⟩
    ·simp only[List.filter_cons,hp,Bool.false_eq_true,if_false,gC];exact q2
    ·simp only[List.take_succ_cons,List.filter_cons,hp,Bool.false_eq_true,if_false,q3]
   ·simp only[List.filter_cons,hp,Bool.false_eq_true,if_false]at h;have:=h2 i j aB h;simp only;omega
end Kit
def za4(id:Int)(ds:List Dp):List Dp:=ds.filter fun d=>!decide (d.id=id)
namespace Kit
abbrev ZT:=Int->Int->Prop
def Z0:ZT:=fun _ _=>False
def pc(p:Int)(is:List Ino):Nat:=(is.map fun x=>x.2.2.count p).sum
def fk(ds:List Dp):List (Int×List Int):=(ds.filter fun d=>d.kd==5).map fun d=>(d.id,d.bl)
def fc5(p:Int)(l:List (Int×List Int)):Nat:=(l.map fun e=>e.2.count p).sum
def bitZ(p:Int)(xs:List Bool):Nat:=if xs[p.toNat-1]?=some true then 1 else 0
structure Kz(Z:ZT)(m:MD):Prop where
 k:∀p:Int,1<=p->p<=16->pc p m.is+fc5 p (fk m.ds)<=bitZ p m.xs
 z:∀i p,Z i p->1<=p->p<=16->pc p m.is=0/\∀e∈fk m.ds,e.1≠i->p∉e.2
theorem zl2{α:Type}(f:α->Nat):∀(l:List α)(j:Nat)(h:j<l.length)(x:α),((l.set j x).map f).sum+f l[j]=(l.map f).sum+f x
 | [],_,h,_=>by simp at h
 | a::l,0,_,x=>by simp;omega
 | a::l,j+1,h,x=>by
  have:=zl2 f l j uI x;simp only[cS,List.map_cons,List.sum_cons,gC];omega
theorem sum_sub{α:Type}(f:α->Nat){l l':List α}(h:l.Sublist l'):(l.map f).sum<=(l'.map f).sum:=by
 induction h with
 | slnil=>exact Nat.le_refl _
 | cons a _ ih=>simp;omega
 | cons_cons a _ ih=>simp;omega
theorem ze8{α:Type}(f:α->Nat){l:List α}{d:α}(h:d∈l):f d<=(l.map f).sum:=by
 induction l with
 | nil=>simp at h
 | cons a l ih =>
  simp only[List.map_cons,List.sum_cons];rcases List.mem_cons.mp h with rfl|h
  ·omega
  have:=ih h;omega
theorem sum_two{α:Type}(f:α->Nat){l:List α}{d e:α}(h:d∈l)(h2:e∈l)(hn:d≠e):f d+f e<=(l.map f).sum:=by
 induction l with
 | nil=>simp at h
 | cons a l ih =>
  simp only[List.map_cons,List.sum_cons];rcases List.mem_cons.mp h with rfl|h
  ·rcases List.mem_cons.mp h2 with rfl|h2
   ·exact absurd rfl hn
   have:=ze8 f h2;omega
  rcases List.mem_cons.mp h2 with e2|h2
  ·have:=ze8 f h;rw[e2];omega
  have:=ih h h2;omega
theorem ze9(f:Dp->Bool)(ds:List Dp):(fk (ds.filter f)).Sublist (fk ds):=(List.filter_sublist.filter _).map _
theorem zds(a b:List Dp):fk (a++b)=fk a++fk b:=by simp[fk]
theorem zgu{d:Dp}(h:d.kd≠5):fk [d]=[]:=by simp[fk,h]
theorem zjl{d:Dp}(h:d.kd=5):fk [d]=[(d.id,d.bl)]:=by simp[fk,h]
theorem zl3(d:Dp)(ds:List Dp):fk (d::ds)=fk [d]++fk ds:=zds [d] ds
def AlkD(d e:Dp):Prop:=(d.kd=5↔e.kd=5)/\(e.kd=5->d.id=e.id/\d.bl=e.bl)
theorem AlkD.refl(d:Dp):AlkD d d:=⟨Iff.rfl,fun _=>⟨rfl,rfl⟩⟩
theorem AlkD.fk{d e:Dp}(h:AlkD d e):fk [d]=Kit.fk [e]:=by
 by_cases h5:e.kd=5
 ·rw[zjl h5,zjl (h.1.mpr h5),(h.2 h5).1,(h.2 h5).2]
 rw[zgu h5,zgu (fun q=>h5 (h.1.mp q))]
theorem zgv:∀(a b:List Dp),a.length=b.length->(∀(i:Nat)(h1:i<a.length)(h2:i<b.length),AlkD a[i] b[i])->fk a=fk b
 | [],[],_,_=>rfl
 | [],_::_,h,_=>by simp at h
 | _::_,[],h,_=>by simp at h
 | x::a,y::b,h,hp=>by
  rw[zl3 x a,zl3 y b,(show AlkD x y from hp 0 sI sI).fk,zgv a b uI (fun i h1 h2=>hp (i+1) (by simpa using h1) (by simpa using h2))]
theorem fk_set(ds:List Dp)(j:Nat)(h:j<ds.length)(d:Dp)(ha:AlkD d ds[j]):fk (ds.set j d)=fk ds :=
 zgv _ _ sI fun i h1 h2=>by
  by_cases hij:j=i
  ·subst hij;rw[gS_];exact ha
  ·rw[gN hij];exact AlkD.refl _
theorem zd5(ds:List Dp)(j:Nat)(h:j<ds.length)(d:Dp)(ha:AlkD d ds[j]):(fk (ds.set j d)).Sublist (fk ds):=by
 rw[fk_set ds j h d ha];exact List.Sublist.refl _
theorem zgw{xs:List Bool}{j:Nat}(hj:j<xs.length){p:Int}(h1:1<=p)(b:Bool):bitZ p (xs.set j b)=if p=(j:Int)+1 then(if b then 1 else 0)else bitZ p xs:=by
 unfold bitZ;by_cases h:p=(j:Int)+1
 ·rw[if_pos h,show p.toNat-1=j by omega,List.getElem?_set_self hj]
  cases b<;>simp
 rw[if_neg h,List.getElem?_set_ne oM]
theorem ziv(p:Int)(xs:List Bool):bitZ p xs<=1:=by unfold bitZ;split<;>omega
theorem zjm(is:List Ino)(j:Nat)(h:j<is.length)(x:Ino)(p:Int):pc p (is.set j x)+is[j].2.2.count p=pc p is+x.2.2.count p:=zl2 (fun y:Ino=>y.2.2.count p) is j h x
theorem zjn{p:Int}:∀{l:List (Int×List Int)},(∀e∈l,p∉e.2)->fc5 p l=0
 | [],_=>rfl
 | e::l,h=>by
  have h1:=List.count_eq_zero.mpr (h e sI);have h2:=zjn (l:=l) fun q hq=>h q (by simp[hq]);show e.2.count p+fc5 p l=0;omega
def BlQ(ps:List Int)(q:Nat)(bl:List Int):Prop:=(∀p∈bl,(1:Int)<=p/\p<=16)/\∀p,bl.count p<=(ps.take q).count p
theorem BlQ.nil(ps:List Int):BlQ ps 0 []:=⟨fun p hp=>by simp at hp,fun p=>sI⟩
theorem BlQ.more{ps:List Int}{q:Nat}{bl:List Int}(h:BlQ ps q bl)(hq:q<ps.length){t:Int}(ht:ps[q]=t)(h1:1<=t)(h2:t<=16):BlQ ps (q+1) (bl++[t]):=by
 refine⟨fun p hp=>?_,fun p=>?_⟩
 ·rcases List.mem_append.mp hp with e|e
  ·exact h.1 p e
  simp only[mN,nN,or_false]at e;subst e;exact⟨h1,h2⟩
 have:=h.2 p;rw[tS hq,List.count_append,List.count_append,ht];omega
theorem BlQ.skip{ps:List Int}{q:Nat}{bl:List Int}(h:BlQ ps q bl)(hq:q<ps.length):BlQ ps (q+1) bl:=by
 refine⟨h.1,fun p=>?_⟩;have:=h.2 p;rw[tS hq,List.count_append];omega
namespace Kz
variable {Z : ZT} {m : MD}
theorem weak{Z':ZT}(h:Kz Z' m)(hz:∀i p,Z i p->Z' i p):Kz Z m:=⟨h.k,fun i p hi=>h.z i p (hz i p hi)⟩
theorem none(h:Kz Z m):Kz Z0 m:=h.weak fun _ _ e=>e.elim
theorem of(h:Kz Z m){m':MD}(h1:m'.is=m.is)(h2:fk m'.ds=fk m.ds)(h3:m'.xs=m.xs):Kz Z m':=by
 obtain⟨a,b⟩:=h;refine⟨?_,?_⟩
 ·rw[h1,h2,h3];exact a
 rw[h1,h2];exact b
theorem deps(h:Kz Z m){m':MD}(h1:m'.is=m.is)(h2:(fk m'.ds).Sublist (fk m.ds))(h3:m'.xs=m.xs):Kz Z m':=by
 obtain⟨a,b⟩:=h;refine⟨fun p p1 p2=>?_,fun i p hz p1 p2=>?_⟩
 ·have:=a p p1 p2;have h4:=sum_sub (fun e:Int×List Int=>e.2.count p) h2;rw[h1,h3];unfold fc5 at*;omega
 have:=b i p hz p1 p2;rw[h1];exact⟨this.1,fun e he=>this.2 e (h2.subset he)⟩
theorem inode(h:Kz Z m)(j:Nat){x:Ino}(hx:∀(hj:j<m.3.length)(p:Int),1<=p->x.2.2.count p<=m.is[j].2.2.count p):Kz Z { m with is:=m.is.set j x }:=by
 by_cases hj:j<m.3.length
 ·obtain⟨a,b⟩:=h;refine⟨fun p p1 p2=>?_,fun i p hz p1 p2=>?_⟩
  ·have q:=zjm m.is j hj x p;have:=hx hj p p1;have:=a p p1 p2;show pc p (m.is.set j x)+fc5 p (fk m.ds)<=bitZ p m.xs;omega
  have q:=zjm m.is j hj x p;have:=hx hj p p1;have:=b i p hz p1 p2;exact⟨by show pc p (m.is.set j x)=0;omega,this.2⟩
 rw[List.set_eq_of_length_le oM];exact h
theorem mark(h:Kz Z m)(j:Nat)(fs:List Bool):Kz Z { m with xs:=m.xs.set j true,fs:=fs }:=by
 by_cases hj:j<m.1.length
 ·refine⟨fun p p1 p2=>?_,h.z⟩;have:=h.k p p1 p2;have q:=ziv p m.xs;show _<=bitZ p (m.xs.set j true);rw[zgw hj p1]
  split
  ·simp;omega
  exact this
 rw[List.set_eq_of_length_le oM];exact⟨h.k,h.z⟩
theorem clear(h:Kz Z m)(j:Nat)(hz:∀i,Z i ((j:Int)+1)):Kz Z { m with xs:=m.xs.set j false }:=by
 by_cases hj:j<m.1.length
 ·refine⟨fun p p1 p2=>?_,h.z⟩;show _<=bitZ p (m.xs.set j false);rw[zgw hj p1]
  split
  ·rename_i e;have q0:=(h.z 0 p (by rw[e];exact hz 0) p1 p2).1;have q1:=zjn fun e' he=>(h.z (e'.1+1) p (by rw[e];exact hz _) p1 p2).2 e' he oM;simp only[Bool.false_eq_true,if_false];show pc p m.is+fc5 p (fk m.ds)<=0;omega
  exact h.k p p1 p2
 rw[List.set_eq_of_length_le oM];exact⟨h.k,h.z⟩
theorem take(h:Kz Z0 m)(j p:Nat)(x:Ino)(fs:List Bool)(hp:p<m.1.length)(hb:m.xs[p]?=some false)(hx:∀(hj:j<m.3.length)(q:Int),1<=q->x.2.2.count q<=m.is[j].2.2.count q+(if q=(p:Int)+1 then 1 else 0)):Kz Z0 { m with xs:=m.xs.set p true,fs:=fs,is:=m.is.set j x }:=by
 refine⟨fun q q1 q2=>?_,fun _ _ e=>e.elim⟩;have a:=h.k q q1 q2;show pc q (m.is.set j x)+fc5 q (fk m.ds)<=bitZ q (m.xs.set p true);rw[zgw hp q1];by_cases hj:j<m.3.length
 ·have e:=zjm m.is j hj x q;have l:=hx hj q q1;by_cases hq:q=(p:Int)+1
  ·rw[if_pos hq]at l ⊢;have z:bitZ q m.xs=0:=by unfold bitZ;rw[hq,show((p:Int)+1).toNat-1=p by omega,hb];simp
   simp only[if_true];omega
  rw[if_neg hq]at l ⊢;omega
 rw[List.set_eq_of_length_le oM];have:=ziv q m.xs
 split
 ·simp;omega
 exact a
def Room(Z:ZT)(m:MD)(bl:List Int):Prop:=(∀p:Int,1<=p->p<=16->pc p m.is+fc5 p (fk m.ds)+bl.count p<=bitZ p m.xs)/\∀i p,Z i p->1<=p->p<=16->p∉bl
theorem put(h:Kz Z m){m':MD}(d:Dp)(h1:m'.is=m.is)(h2:m'.ds=m.ds++[d])(h3:m'.xs=m.xs)(hr:d.kd=5->Room Z m d.bl):Kz Z m':=by
 by_cases h5:d.kd=5
 ·obtain⟨r1,r2⟩:=hr h5;refine⟨fun p p1 p2=>?_,fun i p hz p1 p2=>?_⟩
  ·have:=r1 p p1 p2;rw[h1,h2,h3,zds,zjl h5];unfold fc5 at*;simp;omega
  have:=h.z i p hz p1 p2;rw[h1,h2,zds,zjl h5];refine⟨this.1,fun e he hn=>?_⟩;rcases List.mem_append.mp he with he|he
  ·exact this.2 e he hn
  simp only[List.mem_cons,List.not_mem_nil,or_false]at he;subst he;exact r2 i p hz p1 p2
 exact h.of h1 (by rw[h2,zds,zgu h5,List.append_nil]) h3
theorem lose(h:Kz Z m)(j:Nat)(hj:j<m.3.length)(x:Ino)(bl:List Int)(hx:∀p:Int,1<=p->x.2.2.count p=0)(hb:∀p:Int,1<=p->bl.count p<=m.is[j].2.2.count p):Room Z { m with is:=m.is.set j x } bl:=by
 refine⟨fun p p1 p2=>?_,fun i p hz p1 p2 hm=>?_⟩
 ·have e:=zjm m.is j hj x p;have:=hx p p1;have:=hb p p1;have:=h.k p p1 p2;show pc p (m.is.set j x)+fc5 p (fk m.ds)+bl.count p<=bitZ p m.xs;omega
 have q:=(h.z i p hz p1 p2).1;have c:=List.count_pos_iff.mpr hm;have:=hb p p1;have:=ze8 (fun y:Ino=>y.2.2.count p) (List.getElem_mem hj);unfold pc at q;omega
theorem Room.of{bl:List Int}(h:Room Z m bl){m':MD}(h1:m'.is=m.is)(h2:fk m'.ds=fk m.ds)(h3:m'.xs=m.xs):Room Z m' bl:=by
 obtain⟨a,b⟩:=h;refine⟨?_,b⟩;rw[h1,h2,h3];exact a
theorem drop(h:Kz Z m)(id:Int)(bl:List Int)(hb:∀p∈bl,Z id p):Kz (fun i p=>Z i p\/p∈bl) { m with ds:=za4 id m.ds }:=by
 have hs:(fk (za4 id m.ds)).Sublist (fk m.ds):=ze9 _ _;refine⟨(h.deps (m':={ m with ds:=za4 id m.ds }) rfl hs rfl).k,fun i p hz p1 p2=>?_⟩;rcases hz with hz|hz
 ·have:=h.z i p hz p1 p2;exact⟨this.1,fun e he=>this.2 e (hs.subset he)⟩
 have:=h.z id p (hb p hz) p1 p2;refine⟨this.1,fun e he _=>this.2 e (hs.subset he) ?_⟩;obtain⟨d,hd,rfl⟩:=List.mem_map.mp he;have:=(List.mem_filter.mp (List.mem_filter.mp hd).1).2;simpa using this
def zof(ds:List Dp):ZT:=fun i p=>∃d∈ds,d.kd=5/\d.id=i/\p∈d.bl
theorem zof_of(h:Kz Z m):Kz (zof m.ds) m:=by
 refine⟨h.k,fun i p hz p1 p2=>?_⟩;obtain⟨d,hd,h5,rfl,hp⟩:=hz;have hm:(d.id,d.bl)∈fk m.ds:=List.mem_map.mpr ⟨d,List.mem_filter.mpr ⟨hd,by simp[h5]⟩,rfl⟩;have a:=h.k p p1 p2;have b:=ziv p m.xs;have c:=List.count_pos_iff.mpr hp;have s:=ze8 (fun e:Int×List Int=>e.2.count p) hm;unfold fc5 at a;refine⟨by simp only at s;omega,fun e he hn hq=>?_⟩;have c2:=List.count_pos_iff.mpr hq;have s2:=sum_two (fun e:Int×List Int=>e.2.count p) hm he (fun q=>hn (by rw[←q]));simp only at s2;omega
theorem ptr(h:Kz Z m){x:Ino}(hx:x∈m.is){p:Int}(hp:p∈x.2.2)(h1:1<=p)(h2:p<=16):m.xs[p.toNat-1]?=some true:=by
 have a:=h.k p h1 h2;have c:=List.count_pos_iff.mpr hp;have s:=ze8 (fun y:Ino=>y.2.2.count p) hx;unfold pc at a;unfold bitZ at a
 split at a
 ·assumption
 omega
end Kz
end Kit
namespace Kit
structure DOkN(d:Dp):Prop where
 io:1<=d.io/\d.io<=8
 pt:0<=d.pt/\d.pt<=1
 bk:0<=d.bk/\d.bk<=16
 sl:0<=d.sl/\d.sl<=3
 bl:∀p∈d.bl,(1:Int)<=p/\p<=16
 bn:d.bl.length<=2
 nm:d.nm.size<=6
structure DOk(d:Dp):Prop extends DOkN d where
 id:1<=d.id/\d.id<=100000
structure IOk(x:Ino):Prop where
 l:0<=x.2.1/\x.2.1<=200
 n:x.2.2.length=2
 p:∀p∈x.2.2,(0:Int)<=p/\p<=16
 z:x.1=1\/x.1=2\/(x.1=0/\x.2.1=0/\∀p∈x.2.2,p=0)
def Unl(ss:List Sl):Prop:=∀(i j:Nat)(hi:i<ss.length)(hj:j<ss.length),i≠j->ss[i].1=ss[j].1->ss[i].1.size=0
def SOk(s:Sl):Prop:=s.1.size<=6/\((s.1.size=0/\s.2=0)\/(1<=s.2/\s.2<=8))
structure KOk0(x:Blk):Prop where
 n:x.1=true->x.2.1.length=4
 m:x.2.1.length<=4
 s:∀s∈x.2.1,SOk s
 t:x.2.2.size<=16
structure KOk(x:Blk):Prop extends KOk0 x where
 f:x.1=false->x.2.1=[]
 e:x.1=true->x.2.2.size=0
 q:∀s∈x.2.1,(s.1.size=0/\s.2=0)\/zat s.1=true
 u:Unl x.2.1
theorem zgx{x:Blk}(h:KOk0 x):bigB 1048576 x:=⟨lT h.m dC,fun j hj=>lT (h.s _ (gM_ hj)).1 dC,lT h.t dC⟩
structure Sh(Z:ZT)(m:MD):Prop where
 x:m.1.length=16
 y:m.2.length=8
 i:m.3.length=8
 ii:∀q∈m.is,IOk q
 b:m.4.length=16
 bb:∀q∈m.bs,KOk q
 f:m.5.length=21
 l:m.6.length<=40
 dd:∀d∈m.ds,DOk d
 nx:1<=m.nx/\m.nx<=100000
 k:Kz Z m
namespace Sh
variable {Z : ZT} {m : MD}
theorem big(h:Sh Z m):BigM 1048576 m :=
 ⟨⟨by rw[h.x];decide,by rw[h.y];decide,by rw[h.i];decide,fun j hj=>by rw[(h.ii _ (List.getElem_mem hj)).n];decide,by rw[h.b];decide,fun j hj=>zgx (h.bb _ (List.getElem_mem hj)).toKOk0⟩,
  by rw[h.f];decide,Nat.le_trans h.l dC,fun j hj=>Nat.le_trans (h.dd _ (List.getElem_mem hj)).bn dC,fun j hj=>Nat.le_trans (h.dd _ (List.getElem_mem hj)).nm dC⟩
theorem with_k{Z':ZT}(h:Sh Z m)(hk:Kz Z' m):Sh Z' m:=⟨h.x,h.y,h.i,h.ii,h.b,h.bb,h.f,h.l,h.dd,h.nx,hk⟩
theorem none(h:Sh Z m):Sh Z0 m:=h.with_k h.k.none
theorem weak{Z':ZT}(h:Sh Z' m)(hz:∀i p,Z i p->Z' i p):Sh Z m:=h.with_k (h.k.weak hz)
theorem mark(h:Sh Z m)(u:Int):Sh Z (markU u m):=by
 unfold markU
 split
 ·exact⟨h.x,h.y,h.i,h.ii,h.b,h.bb,by rw[List.length_set];exact h.f,h.l,h.dd,h.nx,h.k.of rfl rfl rfl⟩
 exact h
theorem deps(h:Sh Z m){ds:List Dp}(hl:ds.length<=40)(hd:∀d∈ds,DOk d)(hf:(fk ds).Sublist (fk m.ds)):Sh Z { m with ds:=ds }:=⟨h.x,h.y,h.i,h.ii,h.b,h.bb,h.f,hl,hd,h.nx,h.k.deps rfl hf rfl⟩
theorem inode(h:Sh Z m)(j:Nat){x:Ino}(hx:IOk x)(hp:∀(hj:j<m.3.length)(p:Int),1<=p->x.2.2.count p<=m.is[j].2.2.count p):Sh Z { m with is:=m.is.set j x }:=⟨h.x,h.y,by rw[List.length_set];exact h.i,fun q hq=>(List.mem_or_eq_of_mem_set hq).elim (h.ii q) (fun e=>e ▸ hx),h.b,h.bb,h.f,h.l,h.dd,h.nx,h.k.inode j hp⟩
theorem block(h:Sh Z m)(j:Nat){x:Blk}(hx:KOk x):Sh Z { m with bs:=m.bs.set j x }:=⟨h.x,h.y,h.i,h.ii,by rw[List.length_set];exact h.b,fun q hq=>(List.mem_or_eq_of_mem_set hq).elim (h.bb q) (fun e=>e ▸ hx),h.f,h.l,h.dd,h.nx,h.k.of rfl rfl rfl⟩
theorem takeB(h:Sh Z m):Sh Z (takeB m):=by
 unfold Kit.takeB
 split
 ·exact h
 exact⟨by rw[List.length_set];exact h.x,h.y,h.i,h.ii,h.b,h.bb,by rw[List.length_set];exact h.f,h.l,h.dd,h.nx,h.k.mark _ _⟩
theorem takeI(h:Sh Z m):Sh Z (takeI m):=by
 unfold Kit.takeI
 split
 ·exact h
 exact⟨h.x,by rw[List.length_set];exact h.y,h.i,h.ii,h.b,h.bb,by rw[List.length_set];exact h.f,h.l,h.dd,h.nx,h.k.of rfl rfl rfl⟩
end Sh
variable {Z : ZT}
theorem IOk.none:IOk ((0:Int),(0:Int),([0,0]:List Int)):=⟨by decide,rfl,fun p hp=>by simp at hp;omega,.inr (.inr ⟨rfl,rfl,fun p hp=>by simp at hp;exact hp⟩)⟩
theorem Unl.set{ss:List Sl}(h:Unl ss){t:Nat}{y:Sl}(hy:y.1.size=0\/∀(i:Nat)(hi:i<ss.length),¬ss[i].1=y.1):Unl (ss.set t y):=fun i j hi hj hn e=>by
 rw[List.length_set]at hi hj;rw[List.getElem_set,List.getElem_set]at e;rw[List.getElem_set];by_cases h1:t=i
 ·rw[if_pos h1]at e ⊢;rw[if_neg (fun h2=>hn (h1.symm.trans h2))]at e;exact hy.elim id fun q=>absurd e.symm (q j hj)
 ·rw[if_neg h1]at e ⊢;by_cases h2:t=j
  ·rw[if_pos h2]at e;exact hy.elim (fun q=>by rw[e];exact q) fun q=>absurd e (q i hi)
  ·rw[if_neg h2]at e;exact h i j hi hj hn e
theorem Unl.nil:Unl []:=fun i _ hi=>absurd hi (Nat.not_lt_zero i)
def BX(Z:ZT)(w:World)(L b:Nat):Prop:=∃(S:Nat->Prop)(u v iv bv dv pv:Value)(m:MD),PM w S b u v iv bv dv pv m/\(∀k,S k->L<=k)/\L<=b/\Sh Z m
theorem BX.below{w w':World}{L b:Nat}(h:BX Z w L b)(hb:Below w.1.size w w'):BX Z w' L b:=by
 exact cQ128
end Kit
namespace Kit
def rowsK(id:Int)(ts:List Row)(ds:List Dp):List Row:=((ts.zip ds).filter fun q=>!decide (q.2.id=id)).map (·.1)
theorem zko(id:Int)(ts:List Row)(ds:List Dp)(hl:ts.length=ds.length)(j:Nat)(h1:j<ts.length)(h2:j<ds.length):rowsK id (ts.take (j+1)) (ds.take (j+1))=rowsK id (ts.take j) (ds.take j)++(if ds[j].id=id then[]else[ts[j]]):=by
 unfold rowsK;rw[←tG h1,←tG h2,List.zip_append (by rw[lK,lK];omega),List.filter_append,List.map_append];congr 1
 by_cases e:ds[j].id=id<;>simp[e]
theorem GN.keep{w w2:Wd}{S:Nat->Prop}{v lv:Va}{ts:List Row}{ds:List Dp}(h:GN KDep w S v ts ds)(id:Int)(hn:NOwns w2 42 11 lv (rowsK id ts ds))(hlo:∀k,lv.ownBlock=some k->w.1.size<=k)(hb:Bw w w2):
  GN KDep w2 (fun k=>(S k/\k<w.1.size)\/w.1.size<=k) lv (rowsK id ts ds) (ds.filter fun d=>!decide (d.id=id)):=by
 have hl:=h.len;obtain⟨f,h1,h2⟩:=zdr (fun q:Row×Dp=>!decide (q.2.id=id)) (ts.zip ds);have e1:(ds.filter fun d=>!decide (d.id=id))=((ts.zip ds).filter fun q=>!decide (q.2.id=id)).map (·.2):=by
  exact cQ103
 have aD:(ts.zip ds).length=ts.length:=by rw[List.length_zip];omega
 have hr:∀(j:Nat) (hj:j<(rowsK id ts ds).length),∃(q1:f j<ts.length)(q2:f j<ds.length),(rowsK id ts ds)[j]=ts[f j]/\∀(h':j<(ds.filter fun d=>!decide (d.id=id)).length),(ds.filter fun d=>!decide (d.id=id))[j]=ds[f j]:=fun j hj=>by
  have hj2:j<((ts.zip ds).filter fun q=>!decide (q.2.id=id)).length:=by simpa[rowsK]using hj
  obtain⟨p1,p2,-⟩:=h1 j hj2;refine⟨oM,oM,?_,fun h'=>?_⟩
  ·simp only[rowsK,List.getElem_map,p2,List.getElem_zip]
  simp only[e1,List.getElem_map,p2,List.getElem_zip]
 have fi:∀i j,i<(rowsK id ts ds).length->j<(rowsK id ts ds).length->i≠j->f i≠f j:=fun i j hi hj hne=>by
  have hi2:i<((ts.zip ds).filter fun q=>!decide (q.2.id=id)).length:=by simpa[rowsK]using hi
  have hj2:j<((ts.zip ds).filter fun q=>!decide (q.2.id=id)).length:=by simpa[rowsK]using hj
  exact cQ120
 have aB:∀(j:Nat)(hj:j<ts.length)(k:Nat),(KDep.p ts[j]).ownBlock=some k->k<w.1.size:=fun j hj k hk=>KDep.lt (h.inn j hj oM) k hk;refine⟨by rw[e1];simp[rowsK],hn,fun j hj aC=>?_,fun i j hi hj hne k=>?_,fun j hj k e2 e3=>?_,fun k e=>.inr (hlo k e),fun j hj k e=>?_⟩
 ·obtain⟨q1,q2,q3,q4⟩:=hr j hj;rw[q3,q4 aC];exact KDep.heap (h.inn (f j) q1 q2) fun k hk=>hb.block k (aB (f j) q1 k hk)
 ·exact cQ105
 ·obtain⟨q1,q2,q3,-⟩:=hr j hj;rw[q3]at e2;have:=aB (f j) q1 k e2;have:=hlo k e3;omega
 obtain⟨q1,q2,q3,-⟩:=hr j hj;rw[q3]at e;exact .inl ⟨h.si (f j) q1 k e,aB (f j) q1 k e⟩
end Kit
theorem zct(id:Int)(u v iv bv dv pv:Va)(m:MD)(w:Wd)(h:MR w u v iv bv dv pv m)(hB:BigM 1048576 m):
  Calls Tryz.prog 14 #[.agg #[u,v,iv,bv,dv,pv,nI m.nx],nI id] w fun e w'=>∃u' v' i' b' d' p',e=.returned (.agg #[u',v',i',b',d',p',nI m.nx])/\MO w' (fun k=>w.1.size<=k) u' v' i' b' d' p' { m with ds:=za4 id m.ds }/\Bw w w':=by
 have H:=hJ h;have HG:=hJ hB;have bH:=hB.l;obtain⟨a1,c1,a2,c2,a3,c3,a4,c4,a5,c5,a6,c6,rfl,rfl,rfl,rfl,rfl,rfl⟩:=h.form;clear h hB;have HC:Hid (∀W,Bw ((w.n (M7 m a1 c1 a2 c2 a3 c3 a4 c4 a5 c5 a6 c6) 33).n noM 33) W->AtC W (w.1.size+1) 33 noM/\Bw w W/\w.1.size+1+1<=W.1.size):=fun W b2=>by
  have k1:=(AtC.new (w.alloc (.cells (M7 m a1 c1 a2 c2 a3 c3 a4 c4 a5 c5 a6 c6) 33)) 33 noM).over b2;have sz:=b2.size;simp at k1 sz;exact⟨k1,(((bF _ w).alloc nR _).alloc sI _).trans (b2.mono sO),sz⟩
 go_enter Tryz.func14,Tryz.ntmps14
 go_wp2_with fail
 refine(zax _ _ _ _ _ _ m _ (H.out.below (HC.o _ bR).2.1 nR) HG.o).mono ?_;rintro e w2 ⟨u1,u2,u3,u4,u5,u6,rfl,O2,B2⟩;obtain⟨b1,d1,b2,d2,b3,d3,b4,d4,b5,d5,b6,d6,rfl,rfl,rfl,rfl,rfl,rfl⟩:=O2.mr.form;have bI:=(HC.o w2 B2).2.2;obtain⟨S1,S2,S3,ts,k1,k2,k3,k4,k5,k6,k7⟩:=(O2.mono (S':=fun k=>w.1.size+1+1<=k) (fun k hk=>by simp at hk;omega)).bound;have HS:Hid (∀W,Bw (w2.n (M7 m b1 d1 b2 d2 b3 d3 b4 d4 b5 d5 b6 d6) 33) W->AtC W (w.1.size+1) 33 noM/\AtC W w2.1.size 33 (M7 m b1 d1 b2 d2 b3 d3 b4 d4 b5 d5 b6 d6)/\GN KDep W S3 (sL b6 m.6 d6) ts m.ds/\Bw w W):=fun W b=>by
  have bb:Bw w2 W:=((bF _ w2).alloc nR _).trans (b.mono sI);have q:=HC.o W (B2.trans (bb.mono B2.size));exact⟨q.1,(AtC.new w2 33 _).over b,k4.below bb nR,q.2.1⟩
 have aT:=hJ (aI k1 (aI k2 (aI k3 (aI k4 (aI k5 (aI k6 k7))))));have aO:=k4.len;have bC:=hJ B2;clear O2 B2 k1 k2 k3 k4 k5 k6 k7;go_wp2_with fail
 go_loopw [7,6] (fun i lv wr=>∃j:Nat,j<=m.6.length/\i=.int .i64 j/\Hid (NOwns wr 42 11 lv (rowsK id (ts.take j) (m.ds.take j))/\(∀k,lv.ownBlock=some k->w2.1.size+1<=k)/\Bw (w2.n (M7 m b1 d1 b2 d2 b3 d3 b4 d4 b5 d5 b6 d6) 33) wr)) (fun i lv _=>m.6.length-(intOf i).toNat)
 case atStart =>
  refine⟨0,zL _,rfl,?_,?_,bR.alloc nR _⟩
  ·have:=NOwns.of_at (n:=11) (ts:=[]) (AtC.new (w2.alloc (.cells (M7 m b1 d1 b2 d2 b3 d3 b4 d4 b5 d5 b6 d6) 33)) 42 #[]) rfl (Even.nil _) (zL _);simpa[rowsK]using this
  intro k hk;simp[Value.ownBlock]at hk;omega
 obtain⟨j,hj,rfl,HR⟩:=hrel;obtain⟨hn,aG,aB⟩:=HR.o;have q9:=HS.o wr aB;by_cases hlt:j<m.6.length
 ·have bK:=q9.2.1.c5;obtain⟨g,cap,ei,aC,-,hg,-⟩:=q9.2.2.1.row.at j oM;rw[aO]at ei;simp only[vJ,true_and]at ei;obtain⟨rfl,rfl⟩:=ei;obtain⟨p,aH,aR⟩:=q9.2.2.1.inn j oM hlt;have aN:=zko id ts m.ds aO j oM hlt;rw[aH]at aN;have nn:DCells wr g (j*11) m.ds[j] p:=DCells.of fun i hi=>by rw[←aH];exact aC i hi
  obtain⟨X,hX⟩:∃X,m.ds[j]=X:=⟨_,rfl⟩
  rw[hX]at nn aR aN;obtain⟨aF,kd,io,pt,bk,sl,nm,bt,ot,af,bl⟩:=X;obtain⟨pa,pc,rfl⟩:=aR.rints.form;simp only[DCells]at nn;obtain⟨n0,n1,n2,n3,n4,n5,n6,n7,n8,n9,bJ⟩:=nn;have aD:=hJ (aI hn (aI aG aB));have aQ:=hJ aN;have j0:(0:Int)<=(j:Int):=oM
  have j1:(j:Int)<(m.6.length:Int):=oM
  clear hn aG aB q9 aC hg aH aR hX aN HR;by_cases hid:aF=id
  ·subst hid;go_wp2;go_roundw
   case rel =>
    refine⟨j+1,oM,gK,?_,aD.o.2.1,aD.o.2.2⟩;have:=aQ.o;simp only[if_true,List.append_nil]at this;rw[this];exact aD.o.1
   simp[intOf];omega
  have HT:Hid (NOwns (wr.n (K7 aF kd io pt bk sl nm bt ot af pa bl.length pc) 42) 42 11 u6 (rowsK id (ts.take j) (m.ds.take j))):=aD.o.1.of_heap fun k hk=>((bF _ wr).alloc nR _).block k (aD.o.1.lt k hk);have bG:Hid ((rowsK id (ts.take j) (m.ds.take j)).length<=100000000000):=by
   have q:(rowsK id (ts.take j) (m.ds.take j)).length<=j:=by
    unfold rowsK;rw[lM];refine lT (List.length_filter_le _ _) ?_;rw[List.length_zip,lK,lK];omega
   show _<=_;omega
  have aL:Hid (∀v' w',NOwns w' 42 11 v' (rowsK id (ts.take j) (m.ds.take j)++[(⟨aF,kd,io,pt,bk,sl,nm,bt,ot,af,bl⟩:Dp).row (sL pa bl pc)])->(wr.n (K7 aF kd io pt bk sl nm bt ot af pa bl.length pc) 42).grownBy w' u6.ownBlock->(∀k,v'.ownBlock=some k->u6.ownBlock=some k\/(wr.n (K7 aF kd io pt bk sl nm bt ot af pa bl.length pc) 42).1.size<=k)->NOwns w' 42 11 v' (rowsK id (ts.take (j+1)) (m.ds.take (j+1)))/\(∀k,v'.ownBlock=some k->w2.1.size+1<=k)/\Bw (w2.n (M7 m b1 d1 b2 d2 b3 d3 b4 d4 b5 d5 (aA g 0) d6) 33) w'):=fun v' w' q1 q2 q3=>by
   obtain⟨hn,aG,aB⟩:=aD.o;have aV:=aB.size;have aM:(w2.n (M7 m b1 d1 b2 d2 b3 d3 b4 d4 b5 d5 (aA g 0) d6) 33).1.size=w2.1.size+1:=sI
   have:=aQ.o;rw[if_neg (by exact hid)]at this;refine⟨by rw[this];exact q1,fun k hk=>?_,?_⟩
   ·rcases q3 k hk with e|e
    ·exact aG k e
    simp at e;omega
   exact(aB.alloc aV _).grown q2 (by simp at aV ⊢;omega) (fun k hk=>by rw[aM];exact aG k hk)
  clear aD aQ;go_wp2_with (at_builtin;refine wS fun K' aU=>?_;refine zap _ rfl (.tmp 26) (.tmp 32) 31 rfl 42 Tryz.u31 _ 11 104 Tryz.i42 rfl dC dC u6 _ rfl HT.o wr.1.size ((⟨aF,kd,io,pt,bk,sl,nm,bt,ot,af,bl⟩:Dp).row (sL pa bl pc)) rfl rfl (fun i u hu=>(AtC.new wr 42 (K7 aF kd io pt bk sl nm bt ot af pa bl.length pc)).at_ i u hu) (by simp[Dp.row,Value.oneCell']) bG.o ?_;intro bE aZ aS aW aX;refine aU _ _ ?_;have aP:=hJ (aL.o bE aZ aS aW aX);clear aS aW aX aU)
  go_roundw
  case rel=>exact⟨j+1,oM,gK,aP.o⟩
  simp[intOf];omega
 have aY:j=m.6.length:=oM
 subst aY;rw[List.take_length,show ts.take m.6.length=ts by rw[←aO,List.take_length]]at hn;obtain⟨ga,gc,rfl,-⟩:=hn.form;generalize hLN:(rowsK id ts m.ds).length=LN at*;have aM:(w2.n (M7 m b1 d1 b2 d2 b3 d3 b4 d4 b5 d5 b6 d6) 33).1.size=w2.1.size+1:=sI
 have HM:Hid (MO (((wr.setCell ⟨w2.1.size,5,none⟩ (.slice ga LN gc)).s7 (w.1.size+1) (sL b1 m.1 d1) (sL b2 m.2 d2) (sL b3 m.3 d3) (sL b4 m.4 d4) (sL b5 m.5 d5) (.slice ga LN gc) (nI m.nx))) (fun k=>w.1.size<=k) (sL b1 m.1 d1) (sL b2 m.2 d2) (sL b3 m.3 d3) (sL b4 m.4 d4) (sL b5 m.5 d5) (.slice ga LN gc) { m with ds:=za4 id m.ds }/\Bw w (((wr.setCell ⟨w2.1.size,5,none⟩ (.slice ga LN gc)).s7 (w.1.size+1) (sL b1 m.1 d1) (sL b2 m.2 d2) (sL b3 m.3 d3) (sL b4 m.4 d4) (sL b5 m.5 d5) (.slice ga LN gc) (nI m.nx)))):=by
  obtain⟨k1,k2,k3,k4,k5,k6,k7⟩:=aT.o;have bb:Bw w2 wr:=((bF _ w2).alloc nR _).trans (aB.mono sI);have G:=((k4.alloc (.cells (M7 m b1 d1 b2 d2 b3 d3 b4 d4 b5 d5 b6 d6) 33)).keep id hn (fun k hk=>by rw[aM];exact aG k hk) aB).mono (S':=fun k=>S3 k\/w2.1.size+1<=k) (fun k hk=>hk.elim (fun e=>Or.inl e.1) (fun e=>Or.inr (by rw[aM]at e;exact e)));have aK:∀k,k≠w.1.size+1->k≠w2.1.size->(((wr.setCell ⟨w2.1.size,5,none⟩ (.slice ga LN gc)).s7 (w.1.size+1) (sL b1 m.1 d1) (sL b2 m.2 d2) (sL b3 m.3 d3) (sL b4 m.4 d4) (sL b5 m.5 d5) (.slice ga LN gc) (nI m.nx))).1[k]?=wr.1[k]?:=fun k _ _=>(hs7 oA).trans (hO_ _ ⟨w2.1.size,5,none⟩ k _ (by show k≠w2.1.size;omega));have h3:∀k,(S3 k\/w2.1.size+1<=k)->k≠w.1.size+1/\k≠w2.1.size/\w.1.size<=k:=fun k hk=>by
   rcases hk with hk|hk
   ·have:=k7 k (.inr (.inr hk));omega
   omega
  refine⟨⟨S1,S2,fun k=>S3 k\/w2.1.size+1<=k,rowsK id ts m.ds,(k1.below bb nR).of_heap fun k hk _=>aK k (by have:=k7 k (.inl hk);omega) (by have:=k7 k (.inl hk);omega),(k2.below bb nR).of_heap fun k hk=>aK k (by have:=k7 k (.inr (.inl (k3 k hk)));omega) (by have:=k7 k (.inr (.inl (k3 k hk)));omega),k3,G.of_heap fun k hk _=>aK k (h3 k hk).1 (h3 k hk).2.1,fun k hk=>⟨(k5 k hk).1,fun e=>?_⟩,fun k hk e=>?_,fun k hk=>?_⟩,((((((((q9.2.2.2).setCell (by show w.1.size<=w2.1.size;omega) _).setCell sI _).setCell sI _).setCell sI _).setCell sI _).setCell sI _).setCell sI _).setCell sI _⟩
  ·rcases e with e|e
   ·exact(k5 k hk).2 e
   have:=k7 k (.inl hk);omega
  ·rcases e with e|e
   ·exact k6 k hk e
   have:=k7 k (.inr (.inl hk));omega
  rcases hk with hk|hk|hk
  ·have:=k7 k (.inl hk);show w.1.size<=k;omega
  ·have:=k7 k (.inr (.inl hk));show w.1.size<=k;omega
  exact(h3 k hk).2.2
 obtain⟨r0,r1,r2,r3,r4,r5,r6⟩:=q9.1.k7;obtain⟨v0,v1,v2,v3,v4,v5,v6⟩:=q9.1.f7;obtain⟨y0,y1,y2,y3,y4,y5,y6⟩:=AtC.sev q9.2.1;have z5:=q9.2.1.frozen 5;clear q9 hn aG aB HR aT HS bC;go_wp2;refine bY (v:=.agg #[sL b1 m.1 d1,sL b2 m.2 d2,sL b3 m.3 d3,sL b4 m.4 d4,sL b5 m.5 d5,.slice ga LN gc,nI m.nx]) sR7 rfl ⟨_,_,_,_,_,_,rfl,HM.o.1,HM.o.2⟩
namespace Kit
theorem PM.dep_at{w:Wd}{S:Nat->Prop}{b:Nat}{u v iv bv dv pv:Va}{m:MD}(h:PM w S b u v iv bv dv pv m)(j:Nat)(hj:j<m.6.length):
  ∃g c p,pv=.slice (aA g 0) m.6.length c/\DCells w g (j*11) m.ds[j] p/\RInts w p m.ds[j].bl/\(∀i,w.frozen? ⟨g,i,none⟩=false)/\S g/\g<w.1.size /\
   ∀(i:Nat)(x:Va)(d':Dp),i<10->d'.row p=(m.ds[j].row p).set i x->d'.bl=m.ds[j].bl->PM (w.setCell ⟨g,j*11+i,none⟩ x) S b u v iv bv dv pv { m with ds:=m.ds.set j d' }:=by
 obtain⟨S1,S2,S3,ts,k1,k2,k3,k4,k5,k6,k7⟩:=h.own;have hl:=k4.len;obtain⟨g,c,e1,hc,hz,hg,-⟩:=k4.row.at j oM;rw[hl]at e1;obtain⟨p,hr,hO⟩:=k4.inn j oM hj;have gS:=k4.so g (by rw[e1];rfl);have gL:=k7 g (.inr (.inr gS));refine⟨g,c,p,e1,DCells.of fun i hi=>by rw[←hr];exact hc i hi,hO.rints,hz,gL,hg,fun i x d' hi hd hb=>?_⟩;have un:∀k,k≠g->(w.setCell ⟨g,j*11+i,none⟩ x).heap[k]?=w.1[k]?:=fun k hk=>hO_ _ ⟨g,j*11+i,none⟩ k _ hk;have pg:∀k,p.ownBlock=some k->k≠g:=fun k hk e=>by
  subst e;refine k4.out j oM k ?_ (by rw[e1];rfl);rw[hr];exact hk
 have row:=k4.row;rw[e1,←hl]at row;have jt:j<ts.length:=oM
 have r2:=row.set j i jt (by show i<11;omega) x;have et:ts[j].set i x=d'.row p:=by rw[hr,hd]
 rw[et]at r2;have r3:NOwns (w.setCell ⟨g,j*11+i,none⟩ x) 42 11 pv (ts.set j (d'.row p)):=by rw[e1,←hl];exact r2
 have hn:∀k,(KDep.p (d'.row p)).ownBlock=some k->(KDep.p ts[j]).ownBlock=some k:=fun k hk=>by rw[hr];exact hk
 have G:GN KDep (w.setCell ⟨g,j*11+i,none⟩ x) S3 pv (ts.set j (d'.row p)) (m.ds.set j d'):=by
  refine k4.turn j oM (d'.row p) d' r3 ⟨p,rfl,by rw[hb];exact hO.of_heap fun k hk=>un k (pg k hk)⟩ (fun k _ h1 _=>un k fun e=>h1 (by rw[e1,e];rfl)) (fun k hk=>.inl (hn k hk)) (fun k hk=>hk) (fun k hk=>k4.si j oM k (hn k hk))
 exact⟨h.box.other (fun e=>h.nb (e ▸ gL)) _,⟨S1,S2,S3,_,k1.of_heap fun k hk _=>un k fun e=>(k5 k hk).2 (e ▸ gS),k2.of_heap fun k hk=>un k fun e=>k6 k (k3 k hk) (e ▸ gS),k3,G,k5,k6,k7⟩,h.nb⟩
end Kit
namespace Kit
theorem GO.turnX{α:Type}{K:Kd α}{w w':Wd}{S S':Nat->Prop}{v:Va}{ts:List V3}{xs:List α}(h:GO K w S v ts xs)(j:Nat)(t':V3)(x':α)(hr:TOwns w' K.T v (ts.set j t'))(hO:K.O w' t' x')
  (hf:∀k,k<w.1.size->v.ownBlock≠some k->w'.1[k]?=w.1[k]?) (hn:∀k,(K.p t').ownBlock=some k->¬S k) (hs:∀k,S k->S' k) (hs2:∀k,(K.p t').ownBlock=some k->S' k):GO K w' S' v (ts.set j t') (xs.set j x'):=by
 have hl:=h.len;refine⟨by simp[hl],hr,fun i hi aB=>?_,fun i i2 hi aC aD k e1 e2=>?_,fun i hi k e1 e2=>?_,fun k e=>hs k (h.so k e),fun i hi k e=>?_⟩
 ·simp only[lS]at hi aB;by_cases e:j=i
  ·subst e;simp only[gS_];exact hO
  simp only[gN e];exact K.heap (h.inn i hi aB) fun k hk=>hf k (K.lt (h.inn i hi aB) k hk) (fun e'=>h.out i hi k hk e')
 ·simp only[lS]at hi aC;by_cases ei:j=i
  ·subst ei;simp only[gS_]at e1;rw[gN aD]at e2;exact hn k e1 (h.si i2 aC k e2)
  rw[gN ei]at e1;by_cases e2':j=i2
  ·subst e2';simp only[gS_]at e2;exact hn k e2 (h.si i hi k e1)
  rw[gN e2']at e2;exact h.sep i i2 hi aC aD k e1 e2
 ·simp only[lS]at hi;by_cases ei:j=i
  ·subst ei;simp only[gS_]at e1;exact hn k e1 (h.so k e2)
  rw[gN ei]at e1;exact h.out i hi k e1 e2
 simp only[lS]at hi;by_cases ei:j=i
 ·subst ei;simp only[gS_]at e;exact hs2 k e
 rw[gN ei]at e;exact hs k (h.si i hi k e)
def set3(w:Wd)(g j:Nat)(t:V3):World:=((w.setCell ⟨g,j*3,none⟩ t.1).setCell ⟨g,j*3+1,none⟩ t.2.1).setCell ⟨g,j*3+2,none⟩ t.2.2
theorem zaz(w:Wd)(g j:Nat)(t:V3)(k:Nat)(hk:k≠g):(set3 w g j t).heap[k]?=w.1[k]?:=by
 unfold set3;rw[hO_ _ ⟨g,j*3+2,none⟩ k _ hk,hO_ _ ⟨g,j*3+1,none⟩ k _ hk,hO_ _ ⟨g,j*3,none⟩ k _ hk]
theorem GO.putX{α:Type}{K:Kd α}{w:Wd}{S:Nat->Prop}{v:Va}{ts:List V3}{xs:List α}(h:GO K w S v ts xs){g n cap:Nat}(hv:v=.slice (aA g 0) n cap)(j:Nat)(hj:j<ts.length)(t':V3)(x':α)(hO:K.O w t' x')(hn:∀k,(K.p t').ownBlock=some k->¬S k):
  GO K (set3 w g j t') (fun k=>S k\/(K.p t').ownBlock=some k) v (ts.set j t') (xs.set j x'):=by
 have gS:=h.so g vR;have hl:=h.len_of hv;subst hl;have row:=h.row;rw[hv]at row;have r2:=row.set j hj t'.1 t'.2.1 t'.2.2;rw[←hv]at r2;exact h.turnX j t' x' r2 (K.heap hO fun k hk=>zaz w g j t' k fun e=>hn k hk (e ▸ gS)) (fun k _ h1=>zaz w g j t' k fun e=>h1 (by rw[hv,e];rfl)) hn (fun k hk=>.inl hk) (fun k hk=>.inr hk)
section
variable {w : World} {S : Nat -> Prop} {b : Nat} {u v iv bv dv pv : Value} {m : MD}
theorem PM.putI(h:PM w S b u v iv bv dv pv m){g n cap:Nat}(hv:iv=.slice (aA g 0) n cap)(j:Nat)(hj:j<m.3.length)(t':V3)(x':Ino)(hO:KI.O w t' x')(hn:∀k,t'.2.2.ownBlock=some k->¬S k/\k≠b):
  PM (set3 w g j t') (fun k=>S k\/t'.2.2.ownBlock=some k) b u v iv bv dv pv { m with is:=m.is.set j x' }/\S g:=by
 obtain⟨S1,S2,S3,ts,k1,k2,k3,k4,k5,k6,k7⟩:=h.own;obtain⟨T1,T2,T3,ti,tb,z1,z2,z3,z4,z5,z6,z7⟩:=k1;have gT:=z3.so g vR;have gS:=k7 g (.inl (z7 g (.inr (.inl gT))));have nS:∀k,t'.2.2.ownBlock=some k->¬S k:=fun k hk=>(hn k hk).1;have un:∀k,k≠g->(set3 w g j t').heap[k]?=w.1[k]?:=fun k hk=>zaz w g j t' k hk;have zz:=z3.putX hv j (by rw[z3.len];exact hj) t' x' hO (fun k hk e=>nS k hk (k7 k (.inl (z7 k (.inr (.inl e))))));refine⟨⟨(un b fun e=>h.nb (e ▸ gS)).trans h.box,⟨fun k=>S1 k\/t'.2.2.ownBlock=some k,S2,S3,ts,⟨T1,fun k=>T2 k\/t'.2.2.ownBlock=some k,T3,ti.set j t',tb,⟨z1.a.of_heap fun k hk=>un k fun e=>(z5 k (z2 k (.inl hk))).1 (e ▸ gT),z1.b.of_heap fun k hk=>un k fun e=>(z5 k (z2 k (.inr hk))).1 (e ▸ gT),z1.ne⟩,z2,zz,z4.of_heap fun k hk _=>un k fun e=>z6 g gT (e ▸ hk),fun k hk=>⟨fun e=>?_,(z5 k hk).2⟩,fun k hk e=>?_,fun k hk=>?_⟩,k2.of_heap fun k hk=>un k fun e=>(k5 g (z7 g (.inr (.inl gT)))).1 (e ▸ k3 k hk),k3,k4.of_heap fun k hk _=>un k fun e=>(k5 g (z7 g (.inr (.inl gT)))).2 (e ▸ hk),fun k hk=>⟨fun e=>?_,fun e=>?_⟩,k6,fun k hk=>?_⟩,fun e=>?_⟩,gS⟩
 ·rcases e with e|e
  ·exact(z5 k hk).1 e
  exact nS k e (k7 k (.inl (z7 k (.inl hk))))
 ·rcases hk with hk|hk
  ·exact z6 k hk e
  exact nS k hk (k7 k (.inl (z7 k (.inr (.inr e)))))
 ·exact cQ84
 ·exact cQ127
 ·exact cQ126
 ·exact cQ83
 rcases e with e|e
 ·exact h.nb e
 exact(hn b e).2 rfl
theorem PM.putB(h:PM w S b u v iv bv dv pv m){g n cap:Nat}(hv:bv=.slice (aA g 0) n cap)(j:Nat)(hj:j<m.4.length)(t':V3)(x':Blk)(hO:KB.O w t' x')(hn:∀k,t'.2.1.ownBlock=some k->¬S k/\k≠b):
  PM (set3 w g j t') (fun k=>S k\/t'.2.1.ownBlock=some k) b u v iv bv dv pv { m with bs:=m.bs.set j x' }/\S g:=by
 obtain⟨S1,S2,S3,ts,k1,k2,k3,k4,k5,k6,k7⟩:=h.own;obtain⟨T1,T2,T3,ti,tb,z1,z2,z3,z4,z5,z6,z7⟩:=k1;have gT:=z4.so g vR;have gS:=k7 g (.inl (z7 g (.inr (.inr gT))));have nS:∀k,t'.2.1.ownBlock=some k->¬S k:=fun k hk=>(hn k hk).1;have un:∀k,k≠g->(set3 w g j t').heap[k]?=w.1[k]?:=fun k hk=>zaz w g j t' k hk;have zz:=z4.putX hv j (by rw[z4.len];exact hj) t' x' hO (fun k hk e=>nS k hk (k7 k (.inl (z7 k (.inr (.inr e))))));refine⟨⟨(un b fun e=>h.nb (e ▸ gS)).trans h.box,⟨fun k=>S1 k\/t'.2.1.ownBlock=some k,S2,S3,ts,⟨T1,T2,fun k=>T3 k\/t'.2.1.ownBlock=some k,ti,tb.set j t',⟨z1.a.of_heap fun k hk=>un k fun e=>(z5 k (z2 k (.inl hk))).2 (e ▸ gT),z1.b.of_heap fun k hk=>un k fun e=>(z5 k (z2 k (.inr hk))).2 (e ▸ gT),z1.ne⟩,z2,z3.of_heap fun k hk _=>un k fun e=>z6 k hk (e ▸ gT),zz,fun k hk=>⟨(z5 k hk).1,fun e=>?_⟩,fun k hk e=>?_,fun k hk=>?_⟩,k2.of_heap fun k hk=>un k fun e=>(k5 g (z7 g (.inr (.inr gT)))).1 (e ▸ k3 k hk),k3,k4.of_heap fun k hk _=>un k fun e=>(k5 g (z7 g (.inr (.inr gT)))).2 (e ▸ hk),fun k hk=>⟨fun e=>?_,fun e=>?_⟩,k6,fun k hk=>?_⟩,fun e=>?_⟩,gS⟩
 ·rcases e with e|e
  ·exact(z5 k hk).2 e
  exact nS k e (k7 k (.inl (z7 k (.inl hk))))
 ·rcases e with e|e
  ·exact z6 k hk e
  exact nS k e (k7 k (.inl (z7 k (.inr (.inl hk)))))
 ·exact cQ86
 ·exact cQ127
 ·exact cQ126
 ·exact cQ83
 rcases e with e|e
 ·exact h.nb e
 exact(hn b e).2 rfl
theorem PM.inoAt(h:PM w S b u v iv bv dv pv m)(j:Nat)(hj:j<m.3.length):
  ∃g c p,iv=.slice (aA g 0) m.3.length c/\w.cell? ⟨g,j*3,none⟩=some (nI m.is[j].1)/\w.cell? ⟨g,j*3+1,none⟩=some (nI m.is[j].2.1)/\w.cell? ⟨g,j*3+2,none⟩=some p/\RInts w p m.is[j].2.2/\(∀k,w.frozen? ⟨g,k,none⟩=false)/\g<w.1.size/\S g:=by
 obtain⟨S1,S2,S3,ts,k1,-,-,-,-,-,k7⟩:=h.own;obtain⟨a,c,e,hc⟩:=k1.dr.i;obtain⟨hl,hc⟩:=hc;obtain⟨g,aB,t,rfl,-⟩:=hc j hj;obtain⟨T1,T2,T3,ti,tb,z1,z2,z3,z4,z5,z6,z7⟩:=k1;obtain⟨g',c',e',-⟩:=z3.row.at j (by rw[z3.len];exact hj);rw[e]at e';simp only[vJ,oJ,aJ,and_true]at e';obtain⟨⟨rfl,rfl⟩,-,rfl⟩:=e';obtain⟨⟨a,b',p,q1,q2,q3,rfl,rfl,q4⟩,q5,q6,-,q7⟩:=DO.atI (S:=S1) ⟨T1,T2,T3,ti,tb,z1,z2,z3,z4,z5,z6,z7⟩ e j hj;exact⟨g,c,p,e,q1,q2,q3,q4,q5,q6,k7 g (.inl q7)⟩
theorem PM.blkAt(h:PM w S b u v iv bv dv pv m)(j:Nat)(hj:j<m.4.length):
  ∃g c p,bv=.slice (aA g 0) m.4.length c/\w.cell? ⟨g,j*3,none⟩=some (.bool m.bs[j].1)/\w.cell? ⟨g,j*3+1,none⟩=some p/\w.cell? ⟨g,j*3+2,none⟩=some (.string m.bs[j].2.2)/\RSl w p m.bs[j].2.1/\(∀k,w.frozen? ⟨g,k,none⟩=false)/\g<w.1.size/\S g:=by
 obtain⟨S1,S2,S3,ts,k1,-,-,-,-,-,k7⟩:=h.own;obtain⟨a,c,e,hc⟩:=k1.dr.k;obtain⟨hl,hc⟩:=hc;obtain⟨g,aB,t,rfl,-⟩:=hc j hj;obtain⟨T1,T2,T3,ti,tb,z1,z2,z3,z4,z5,z6,z7⟩:=k1;obtain⟨g',c',e',-⟩:=z4.row.at j (by rw[z4.len];exact hj);rw[e]at e';simp only[vJ,oJ,aJ,and_true]at e';obtain⟨⟨rfl,rfl⟩,-,rfl⟩:=e';obtain⟨⟨a,p,b',q1,q2,q3,rfl,rfl,q4⟩,q5,q6,-,q7⟩:=DO.atB (S:=S1) ⟨T1,T2,T3,ti,tb,z1,z2,z3,z4,z5,z6,z7⟩ e j hj;exact⟨g,c,p,e,q1,q2,q3,q4,q5,q6,k7 g (.inl q7)⟩
end
def rowsP(f:Dp->Bool)(ts:List Row)(ds:List Dp):List Row:=((ts.zip ds).filter fun q=>f q.2).map (·.1)
theorem zkn(f:Dp->Bool)(ts:List Row)(ds:List Dp)(hl:ts.length=ds.length)(j:Nat)(h1:j<ts.length)(h2:j<ds.length):rowsP f (ts.take (j+1)) (ds.take (j+1))=rowsP f (ts.take j) (ds.take j)++(if f ds[j]=true then[ts[j]]else[]):=by
 unfold rowsP;rw[←tG h1,←tG h2,List.zip_append (by rw[lK,lK];omega),List.filter_append,List.map_append];congr 1
 by_cases e:f ds[j]=true<;>simp[e]
theorem zcs(f:Dp->Bool)(ts:List Row)(ds:List Dp):(rowsP f ts ds).length<=ds.length:=by
 unfold rowsP;rw[lM];refine lT (List.length_filter_le _ _) ?_;rw[List.length_zip];omega
theorem GN.keepP{w w2:Wd}{S:Nat->Prop}{v lv:Va}{ts:List Row}{ds:List Dp}(h:GN KDep w S v ts ds)(P:Dp->Bool)(hn:NOwns w2 42 11 lv (rowsP P ts ds))(hlo:∀k,lv.ownBlock=some k->¬S k)(hb:∀k,S k->k<w.1.size->w2.1[k]?=w.1[k]?):
  GN KDep w2 (fun k=>S k\/lv.ownBlock=some k) lv (rowsP P ts ds) (ds.filter P):=by
 have hl:=h.len;obtain⟨f,h1,h2⟩:=zdr (fun q:Row×Dp=>P q.2) (ts.zip ds);have e1:ds.filter P=((ts.zip ds).filter fun q=>P q.2).map (·.2):=by
  exact cQ103
 have aD:(ts.zip ds).length=ts.length:=by rw[List.length_zip];omega
 have hr:∀(j:Nat) (hj:j<(rowsP P ts ds).length),∃(q1:f j<ts.length)(q2:f j<ds.length),(rowsP P ts ds)[j]=ts[f j]/\∀(h':j<(ds.filter P).length),(ds.filter P)[j]=ds[f j]:=fun j hj=>by
  have hj2:j<((ts.zip ds).filter fun q=>P q.2).length:=by simpa[rowsP]using hj
  obtain⟨p1,p2,-⟩:=h1 j hj2;refine⟨oM,oM,?_,fun h'=>?_⟩
  ·simp only[rowsP,List.getElem_map,p2,List.getElem_zip]
  simp only[e1,List.getElem_map,p2,List.getElem_zip]
 have fi:∀i j,i<(rowsP P ts ds).length->j<(rowsP P ts ds).length->i≠j->f i≠f j:=fun i j hi hj hne=>by
  have hi2:i<((ts.zip ds).filter fun q=>P q.2).length:=by simpa[rowsP]using hi
  have hj2:j<((ts.zip ds).filter fun q=>P q.2).length:=by simpa[rowsP]using hj
  exact cQ120
 have aC:∀(j:Nat)(hj:j<ts.length)(k:Nat),(KDep.p ts[j]).ownBlock=some k->k<w.1.size:=fun j hj k hk=>KDep.lt (h.inn j hj oM) k hk;refine⟨by rw[e1];simp[rowsP],hn,fun j hj aB=>?_,fun i j hi hj hne k=>?_,fun j hj k e2 e3=>?_,fun k e=>.inr e,fun j hj k e=>?_⟩
 ·obtain⟨q1,q2,q3,q4⟩:=hr j hj;rw[q3,q4 aB];exact KDep.heap (h.inn (f j) q1 q2) fun k hk=>hb k (h.si (f j) q1 k hk) (aC (f j) q1 k hk)
 ·exact cQ105
 ·obtain⟨q1,q2,q3,-⟩:=hr j hj;rw[q3]at e2;exact hlo k e3 (h.si (f j) q1 k e2)
 obtain⟨q1,q2,q3,-⟩:=hr j hj;rw[q3]at e;exact .inl (h.si (f j) q1 k e)
theorem PM.keepD{w:Wd}{S:Nat->Prop}{b:Nat}{u v iv bv dv pv:Va}{m:MD}(h:PM w S b u v iv bv dv pv m):∃ts,ts.length=m.6.length/\(∀(j:Nat)(hj:j<ts.length)(aC:j<m.6.length),KDep.O w ts[j] m.ds[j])/\NOwns w 42 11 pv ts /\
  ∀(w2:Wd)(lv:Va)(f:Dp->Bool),(∀k,S k->k<w.1.size->w2.1[k]?=w.1[k]?)->w2.1[b]?=w.1[b]?->NOwns w2 42 11 lv (rowsP f ts m.ds)->(∀k,lv.ownBlock=some k->¬S k/\k≠b) ->
   PM (w2.setCell ⟨b,5,none⟩ lv) (fun k=>S k\/lv.ownBlock=some k) b u v iv bv dv lv { m with ds:=m.ds.filter f }:=by
 obtain⟨S1,S2,S3,ts,k1,k2,k3,k4,k5,k6,k7⟩:=h.own;refine⟨ts,k4.len,fun j hj aC=>k4.inn j hj aC,k4.row,fun w2 lv f h1 h2 h3 h4=>?_⟩;have aF:AtC w2 b 33 #[u,v,iv,bv,dv,pv,nI m.nx]:=h2.trans h.box;have G:=k4.keepP f h3 (fun k hk e=>(h4 k hk).1 (k7 k (.inr (.inr e)))) (fun k hk aB=>h1 k (k7 k (.inr (.inr hk))) aB);have aD:∀k,lv.ownBlock=some k->k≠b:=fun k hk=>(h4 k hk).2;have un:∀k,k≠b->(w2.setCell ⟨b,5,none⟩ lv).heap[k]?=w2.1[k]?:=fun k hk=>hO_ _ ⟨b,5,none⟩ k _ hk;have nb:∀k,S k->k≠b:=fun k hk e=>h.nb (e ▸ hk);refine⟨aF.set 5 lv,⟨S1,S2,fun k=>S3 k\/lv.ownBlock=some k,_,k1.of_heap fun k hk aB=>(un k (nb k (k7 k (.inl hk)))).trans (h1 k (k7 k (.inl hk)) aB),k2.of_heap fun k hk=>(un k (nb k (k7 k (.inr (.inl (k3 k hk)))))).trans (h1 k (k7 k (.inr (.inl (k3 k hk)))) (k2.lt k hk).2),k3,G.of_heap fun k hk _=>un k (hk.elim (fun e=>nb k (k7 k (.inr (.inr e)))) (aD k)),fun k hk=>⟨(k5 k hk).1,fun e=>?_⟩,fun k hk e=>?_,fun k hk=>?_⟩,fun e=>?_⟩
 ·exact cQ138
 ·exact cQ130
 ·exact cQ85
 rcases e with e|e
 ·exact h.nb e
 exact(h4 b e).2 rfl
end Kit
namespace Kit
variable {Z : ZT}
theorem zfb{w:Wd}{b:Nat}{T:TypeId}{x0 x1 x2 x3 x4 x5 x6:Va}(h:AtC w b T #[x0,x1,x2,x3,x4,x5,x6])(v0 v1 v2 v3 v4 v5 v6:Va):
  AtC (((((((w.setCell ⟨b,0,none⟩ v0).setCell ⟨b,1,none⟩ v1).setCell ⟨b,2,none⟩ v2).setCell ⟨b,3,none⟩ v3).setCell ⟨b,4,none⟩ v4).setCell ⟨b,5,none⟩ v5).setCell ⟨b,6,none⟩ v6) b T #[v0,v1,v2,v3,v4,v5,v6]:=by
 have h0:AtC (w.setCell ⟨b,0,none⟩ v0) b T #[v0,x1,x2,x3,x4,x5,x6]:=h.set 0 v0;have h1:AtC ((w.setCell ⟨b,0,none⟩ v0).setCell ⟨b,1,none⟩ v1) b T #[v0,v1,x2,x3,x4,x5,x6]:=h0.set 1 v1;have h2:AtC (w.s3 b v0 v1 v2) b T #[v0,v1,v2,x3,x4,x5,x6]:=h1.set 2 v2;have h3:=h2.set 3 v3;have h4:=h3.set 4 v4;have h5:=h4.set 5 v5;exact h5.set 6 v6
theorem zaa(w:Wd)(b:Nat)(v0 v1 v2 v3 v4 v5 v6:Va)(k:Nat)(hk:k≠b):(w.s7 b v0 v1 v2 v3 v4 v5 v6).heap[k]?=w.1[k]?:=by
 rw[hO_ _ ⟨b,6,none⟩ k _ hk,hO_ _ ⟨b,5,none⟩ k _ hk,hO_ _ ⟨b,4,none⟩ k _ hk,hO_ _ ⟨b,3,none⟩ k _ hk,hO_ _ ⟨b,2,none⟩ k _ hk,hO_ _ ⟨b,1,none⟩ k _ hk,hO_ _ ⟨b,0,none⟩ k _ hk]
theorem zab{w w':Wd}{B b:Nat}(h:Below B w w')(hb:B<=b)(v0 v1 v2 v3 v4 v5 v6:Va):Below B w (w'.s7 b v0 v1 v2 v3 v4 v5 v6) :=
 ((((((h.setCell hb _).setCell hb _).setCell hb _).setCell hb _).setCell hb _).setCell hb _).setCell hb _
theorem PM.store{w:Wd}{S:Nat->Prop}{b:Nat}{x0 x1 x2 x3 x4 x5 x6 u v iv bv dv pv:Va}{m:MD}(h:AtC w b 33 #[x0,x1,x2,x3,x4,x5,x6])(ho:MO w S u v iv bv dv pv m)(hb:¬S b):
  PM (((((((w.setCell ⟨b,0,none⟩ u).setCell ⟨b,1,none⟩ v).setCell ⟨b,2,none⟩ iv).setCell ⟨b,3,none⟩ bv).setCell ⟨b,4,none⟩ dv).setCell ⟨b,5,none⟩ pv).setCell ⟨b,6,none⟩ (nI m.nx)) S b u v iv bv dv pv m :=
 ⟨zfb h _ _ _ _ _ _ _,ho.of_heap fun k hk _=>zaa _ _ _ _ _ _ _ _ _ k fun e=>hb (e ▸ hk),hb⟩
end Kit
variable {Z : ZT}
theorem zd6{m:MD}(h:Sh Z m)(id:Int):Sh Z { m with ds:=za4 id m.ds }:=h.deps (lT (List.length_filter_le _ _) h.l) (fun d hd=>h.dd d (List.mem_filter.1 hd).1) (ze9 _ _)
theorem zma(L b:Nat)(x y:Int)(w:Wd)(h:BX Z w L b):
  Calls Tryz.prog 213 #[.pointer (aA b 0),nI x,nI y] w fun e w'=>e=.returned (.tuple #[])/\BX Z w' L b/\Below L w w':=by
 obtain⟨S,u,v,iv,bv,dv,pv,m,hP,hSL,hLb,hS⟩:=h;obtain⟨a1,c1,a2,c2,a3,c3,a4,c4,a5,c5,a6,c6,rfl,rfl,rfl,rfl,rfl,rfl⟩:=hP.form;obtain⟨x0,x1,x2,x3,x4,x5,x6⟩:=AtC.sev hP.box;have HP:=hJ hP;have HS:=hJ hS;have HLB:Hid (L<=b/\b<w.1.size):=⟨hLb,hP.box.lt⟩
 have q5:=hP.box.frozen 0;clear hP hS hSL hLb;go_enter Tryz.func213,Tryz.ntmps213
 go_wp2_with fail
 refine(zct x _ _ _ _ _ _ m w HP.o.mr HS.o.big).mono ?_;rintro e w2 ⟨u1,u2,u3,u4,u5,u6,rfl,O2,B2⟩;obtain⟨b1,d1,b2,d2,b3,d3,b4,d4,b5,d5,b6,d6,rfl,rfl,rfl,rfl,rfl,rfl⟩:=O2.mr.form;obtain⟨n,hn⟩:∃n,({ m with ds:=za4 x m.ds }:MD).ds.length=n:=⟨_,rfl⟩
 rw[hn]at O2;simp only[hn];have A2:=HP.o.box.over B2;have hn40:n<=40:=by rw[←hn];exact(zd6 HS.o x).l
 obtain⟨W3,hW3⟩:∃W3,(((((((w2.setCell ⟨b,0,none⟩ (sL b1 m.1 d1)).setCell ⟨b,1,none⟩ (sL b2 m.2 d2)).setCell ⟨b,2,none⟩ (sL b3 m.3 d3)).setCell ⟨b,3,none⟩ (sL b4 m.4 d4)).setCell ⟨b,4,none⟩ (sL b5 m.5 d5)).setCell ⟨b,5,none⟩ (.slice b6 n d6)).setCell ⟨b,6,none⟩ (nI m.nx))=W3:=⟨_,rfl⟩
 have HH:Hid (PM W3 (fun k=>w.1.size<=k) b (sL b1 m.1 d1) (sL b2 m.2 d2) (sL b3 m.3 d3) (sL b4 m.4 d4) (sL b5 m.5 d5) (.slice b6 n d6) { m with ds:=za4 x m.ds }/\Sh Z { m with ds:=za4 x m.ds }/\({ m with ds:=za4 x m.ds }:MD).ds.length=n/\Below L w W3):=by
  rw[←hW3];exact⟨PM.store A2 O2 (by have:=HLB.o;omega),zd6 HS.o x,hn,zab (B2.mono (by have:=HLB.o;omega)) HLB.o.1 _ _ _ _ _ _ _⟩
 obtain⟨r0,r1,r2,r3,r4,r5,r6⟩:=A2.k7;obtain⟨v0,v1,v2,v3,v4,v5,v6⟩:=A2.f7;have y5:=HH.o.1.box.c5;clear A2 O2 B2 hn q5 x0 x1 x2 x3 x4 x5 x6;go_wp2;go_loopw [6] (fun i wr=>∃j:Nat,j<=n/\i=.int .i64 j/\Hid (∃m':MD,PM wr (fun k=>w.1.size<=k) b (.slice b1 m.1.length d1) (.slice b2 m.2.length d2) (.slice b3 m.3.length d3) (.slice b4 m.4.length d4) (.slice b5 m.5.length d5) (.slice b6 n d6) m'/\Sh Z m'/\m'.6.length=n/\Below L w wr)) (fun i _=>n-(intOf i).toNat)
 case atStart=>exact⟨0,zL _,rfl,_,HH.o⟩
 case round =>
  obtain⟨j,hj,rfl,HR⟩:=hrel;obtain⟨m',q1,q2,q3,q4⟩:=HR.o;have y5:=q1.box.c5;by_cases hlt:j<n
  ·have hj2:j<m'.6.length:=oM
   have hdk:=q2.dd _ (gM_ hj2);obtain⟨g,c,p,e1,nn,-,hz,gS,hglt,hset⟩:=q1.dep_at j hj2;rw[q3]at e1;simp only[vJ,true_and]at e1;obtain⟨rfl,rfl⟩:=e1;obtain⟨X,hX⟩:∃X,m'.ds[j]=X:=⟨_,rfl⟩
   rw[hX]at nn hset hdk;obtain⟨id,kd,io,pt,bk,sl,nm,bt,ot,af,bl⟩:=X;simp only[DCells]at nn;obtain⟨-,n1,-,-,n4,-,-,-,-,n9,-⟩:=nn;have f9:=hz (j*11+9);have H0:Hid (∃M',PM wr (fun k=>w.1.size<=k) b (sL b1 m.1 d1) (sL b2 m.2 d2) (sL b3 m.3 d3) (sL b4 m.4 d4) (sL b5 m.5 d5) (.slice (aA g 0) n d6) M'/\Sh Z M'/\M'.ds.length=n/\Below L w wr):=⟨m',q1,q2,q3,q4⟩
   have HE:Hid (∃W9,wr.setCell ⟨g,j*11+9,none⟩ (nI y)=W9/\W9.cell? ⟨b,5,none⟩=some (.slice (aA g 0) n d6)/\W9.cell? ⟨g,j*11+4,none⟩=some (nI bk)/\Hid (∃M',PM W9 (fun k=>w.1.size<=k) b (sL b1 m.1 d1) (sL b2 m.2 d2) (sL b3 m.3 d3) (sL b4 m.4 d4) (sL b5 m.5 d5) (.slice (aA g 0) n d6) M'/\Sh Z M'/\M'.ds.length=n/\Below L w W9)):=by
    have P9:=hset 9 (nI y) (⟨id,kd,io,pt,bk,sl,nm,bt,ot,y,bl⟩:Dp) dC rfl rfl;have hj9:j<(m'.ds.set j (⟨id,kd,io,pt,bk,sl,nm,bt,ot,y,bl⟩:Dp)).length:=by rw[lS];exact hj2
    obtain⟨g2,c2',p2,e2,nn2,-⟩:=P9.dep_at j hj9;have e3:({ m' with ds:=m'.ds.set j (⟨id,kd,io,pt,bk,sl,nm,bt,ot,y,bl⟩:Dp) }:MD).ds[j]'hj9=⟨id,kd,io,pt,bk,sl,nm,bt,ot,y,bl⟩:=by show(m'.ds.set j _)[j]'_=_;simp
    simp only[vJ,oJ,aJ,and_true]at e2;obtain⟨rfl,-,-⟩:=e2;rw[e3]at nn2;simp only[DCells]at nn2;obtain⟨-,-,-,-,z4,-⟩:=nn2;refine⟨_,rfl,P9.box.cell 5,z4,_,P9,q2.deps (by rw[lS];exact q2.l) (fun q hq=>(mS hq).elim (q2.dd q) (fun e=>e ▸ ⟨⟨hdk.io,hdk.pt,hdk.bk,hdk.sl,hdk.bl,hdk.bn,hdk.nm⟩,hdk.id⟩)) (zd5 _ j hj2 _ (by rw[hX];exact⟨Iff.rfl,fun _=>⟨rfl,rfl⟩⟩)),by show(m'.ds.set j _).length=n;rw[lS];exact q3,q4.setCell (lT (Nat.le_of_lt (Nat.lt_of_le_of_lt HLB.o.1 HLB.o.2)) gS) _⟩
   have j0:(0:Int)<=(j:Int):=oM
   have j1:(j:Int)<(n:Int):=oM
   clear q1 q2 q3 q4 HR hX hset hdk hz gS;by_cases h1:kd=4
   ·subst h1;by_cases h2:af=x
    ·subst h2;obtain⟨W9,hW9,a5,a4',HW⟩:=HE.o;by_cases h3:y=0
     ·subst h3;obtain⟨U,hU⟩:∃U,uoB bk=U:=⟨_,rfl⟩
      have CU:Hid (∀W,Calls Tryz.prog 203 #[nI bk] W fun e w'=>e=.returned (nI U)/\w'=W):=fun W=>by rw[←hU];exact zbl bk W
      clear hU;go_wp2_with fail
      refine(CU.out _).mono ?_;rintro e w9 ⟨rfl,rfl⟩;go_wp2_with fail
      obtain⟨M',r1,r2,r3,r4⟩:=HW.o;refine(zbz _ b U _ _ _ _ _ _ M' _ r1).mono ?_;rintro e w10 ⟨rfl,P10,C10⟩;have HZ:Hid (∃M',PM w10 (fun k=>w.1.size<=k) b (sL b1 m.1 d1) (sL b2 m.2 d2) (sL b3 m.3 d3) (sL b4 m.4 d4) (sL b5 m.5 d5) (.slice (aA g 0) n d6) M'/\Sh Z M'/\M'.ds.length=n/\Below L w w10):=⟨_,P10,r2.mark U,by rw[show(markU U M').ds=M'.ds by unfold markU;split<;>rfl];exact r3,r4.trans (C10.below (lT (Nat.le_of_lt (Nat.lt_of_le_of_lt HLB.o.1 HLB.o.2)) r4.size) fun k hk=>lT (Nat.le_of_lt (Nat.lt_of_le_of_lt HLB.o.1 HLB.o.2)) hk)⟩
      clear r1 r2 r3 r4 P10 C10;go_wp2;go_roundw
      case rel=>exact⟨j+1,oM,gK,HZ.o⟩
      case measure=>simp[intOf];omega
     ·exact cQ118
    ·exact cQ46
   ·exact cQ46
  ·have HF:Hid (BX Z wr L b/\Below L w wr):=⟨⟨_,_,_,_,_,_,_,m',q1,fun k hk=>lT (Nat.le_of_lt (Nat.lt_of_le_of_lt HLB.o.1 HLB.o.2)) hk,HLB.o.1,q2⟩,q4⟩
   exact cQ101
theorem zbc(k:Int)(w:Wd):
  Calls Tryz.prog 119 #[nI k] w fun e w'=>∃v,e=.returned (.agg #[nI k,nI (zan k),v])/\ROwns w' w.1.size 3 v (ic [0,0])/\Bw w w':=by
 have mk:=make22;have own:∀o1 o2,ROwns (((w.alloc o1).n #[nI 0,nI 0] 3).alloc o2) w.1.size 3 (.slice (aA (w.1.size+1) 0) 2 2) (ic [0,0]):=fun o1 o2=>by
  have:=(ROwns.lit (w.alloc o1) w.1.size 3 #[nI 0,nI 0] sI (by simp[maxLen])).alloc o2;simpa[ic]using this
 have aB:∀o1 o2 o3,Bw w (((w.alloc o1).alloc o2).alloc o3):=fun o1 o2 o3=>(((bF _ w).alloc nR _).alloc sI _).alloc sO _;have HO:=hJ own;have HB:=hJ aB;clear own aB;by_cases h:k=0
 ·subst h;go_enter Tryz.func119,Tryz.ntmps119
  go_wp2;refine bY (v:=.agg #[nI 0,nI 0,.slice (aA (w.1.size+1) 0) 2 2]) sR0 rfl ⟨_,rfl,HO.o _ _,HB.o _ _ _⟩
 have h0:(k==0)=false:=by simpa using h
 have e1:zan k=1:=by simp[zan,h]
 rw[e1];clear e1;go_enter Tryz.func119,Tryz.ntmps119
 go_wp2;refine bY (v:=.agg #[nI k,nI 1,.slice (aA (w.1.size+1) 0) 2 2]) sR0 rfl ⟨_,rfl,HO.o _ _,HB.o _ _ _⟩
def blkAt(bs:List Blk)(x:Int):Blk:=if inB x 1 bs.length=true then bs.getD (x-1).toNat (false,[],⟨#[]⟩)else(false,[],⟨#[]⟩)
theorem zix(x:Int)(u v iv bv:Va)(xs ys:List Bool)(is:List Ino)(bs:List Blk)(w0 w:Wd)(h:DR w0 u v iv bv xs ys is bs)(h0:Bw w0 w)(hl:bs.length<=1048576):
  Calls Tryz.prog 56 #[.agg #[u,v,iv,bv],nI x] w fun e w'=>∃sv,e=.returned (.tuple #[.agg #[.bool (blkAt bs x).1,sv,.string (blkAt bs x).2.2],.bool (inB x 1 bs.length)])/\RSl w0 sv (blkAt bs x).2.1/\Bw w w':=by
 have HZ:=hJ h0;obtain⟨a4,c4,rfl,-,hc⟩:=h.k;have HC:=hJ hc;clear h hc h0;have HB:Hid (∀A,Bw w (((w.n A 30).n #[.bool false,nZ,eT] 95))):=fun A=>((bF _ w).alloc nR _).alloc sI _
 cases hb:inB x 1 bs.length with
 | false =>
  have HX:=hJ hb;have e0:blkAt bs x=(false,[],⟨#[]⟩):=by unfold blkAt;rw[hb];rfl
  rw[e0];clear hb e0;go_enter Tryz.func56,Tryz.ntmps56
  go_wp2_with fail
  refine(zak x 1 _ _).mono ?_;rintro e w1 ⟨rfl,rfl⟩;rw[HX.o];go_wp2;refine bY (v:=.tuple #[.agg #[.bool false,nZ,eT],.bool false]) sR0 rfl ⟨_,rfl,?_,?_⟩
  ·exact⟨none,0,rfl,Nat.le_refl _,fun j hj=>by simp at hj⟩
  exact HB.o _
 | true =>
  have HX:=hJ hb;obtain⟨h1,h2⟩:=zay hb;obtain⟨j,rfl⟩:∃j:Nat,x=(j:Int)+1:=⟨(x-1).toNat,oM⟩
  have hj:j<bs.length:=oM
  have e0:blkAt bs ((j:Int)+1)=bs[j]:=by
   unfold blkAt;rw[hb,if_pos rfl,show((j:Int)+1-1).toNat=j by omega];simp[hj]
  rw[e0];clear hb e0;obtain⟨g,aB,t,rfl,hg,k0,k1,k2,r1,r2,r3⟩:=HC.o j hj
  replace k0:=(HZ.o.cell (p:=⟨g,aB+j*3,none⟩) hg).trans k0
  replace k1:=(HZ.o.cell (p:=⟨g,aB+j*3+1,none⟩) hg).trans k1
  replace k2:=(HZ.o.cell (p:=⟨g,aB+j*3+2,none⟩) hg).trans k2
  replace hg:g<w.1.size:=lL hg HZ.o.size
  obtain⟨t0,t1,t2⟩:=t;simp only at r1 r2 r3 k0 k1 k2;subst r1 r3;generalize bs[j].1=d at*;generalize bs[j].2.2=tx at*;generalize bs[j].2.1=ss at*;have HR:=hJ r2;obtain⟨pa,pc,rfl,-⟩:=r2;have aC:Hid (∀(A B:Array Va),Bw w ((w.n A 30).n B 95)):=fun A B=>((bF _ w).alloc nR _).alloc sI _;have n0:((w.n #[u,v,iv,sL (aA g aB) bs c4] 30).n #[.bool false,nZ,eT] 95).cell? ⟨g,aB+j*3,none⟩=some (.bool d):=((HB.o _).cell (p:=⟨g,aB+j*3,none⟩) hg).trans k0;have n1:((w.n #[u,v,iv,sL (aA g aB) bs c4] 30).n #[.bool false,nZ,eT] 95).cell? ⟨g,aB+j*3+1,none⟩=some (sL pa ss pc):=((HB.o _).cell (p:=⟨g,aB+j*3+1,none⟩) hg).trans k1;have n2:((w.n #[u,v,iv,sL (aA g aB) bs c4] 30).n #[.bool false,nZ,eT] 95).cell? ⟨g,aB+j*3+2,none⟩=some (.string tx):=((HB.o _).cell (p:=⟨g,aB+j*3+2,none⟩) hg).trans k2;have j0:(0:Int)<=(j:Int):=oM
  have j1:(j:Int)<(bs.length:Int):=oM
  clear k0 k1 k2;go_enter Tryz.func56,Tryz.ntmps56
  go_wp2_with fail
  refine(zak _ 1 _ _).mono ?_;rintro e w1 ⟨rfl,rfl⟩;rw[HX.o];go_wp2;refine bY (v:=.tuple #[.agg #[.bool d,sL pa ss pc,.string tx],.bool true]) sR0 rfl ⟨_,rfl,?_,?_⟩
  ·exact HR.o
  exact aC.o _ _
end Go.Proofs.YtgnplpmgkegcnaaGreat
