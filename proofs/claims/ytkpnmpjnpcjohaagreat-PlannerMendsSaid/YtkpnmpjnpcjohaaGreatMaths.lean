import Derived.Below
namespace Go.Proofs.YtkpnmpjnpcjohaaGreat
namespace GeoMath
def T(n:Nat)(l:List Int)(a b:Nat):Int:=l.getD (a*n+b) 0
structure IsMap(n:Nat)(l:List Int):Prop where
 len:l.length=n*n
 lo:∀i,i<n*n→0≤l.getD i 0
 hi:∀i,i<n*n→l.getD i 0≤1000000
 diag:∀a,a<n→T n l a a=0
def Tri(n:Nat)(l:List Int):Prop:=∀a,a<n→∀b,b<n→∀c,c<n→T n l a c≤T n l a b+T n l b c
instance(n:Nat)(l:List Int):Decidable (Tri n l):=by unfold Tri;infer_instance
def Le(n:Nat)(d l:List Int):Prop:=∀i,i<n*n→d.getD i 0≤l.getD i 0
structure OnWay(n:Nat)(o l:List Int):Prop where
 map:IsMap n l
 le:Le n l o
 above:∀d,d.length=n*n→Tri n d→Le n d o→Le n d l
structure Least(n:Nat)(o l:List Int):Prop where
 good:OnWay n o l
 tri:Tri n l
theorem e_s{n a b:Nat}(ha:a<n)(hb:b<n):a*n+b<n*n:=by
 have:(a+1)*n≤n*n:=Nat.mul_le_mul_right n ha;rw[Nat.add_mul,Nat.one_mul]at this;omega
theorem s_F{n a b a' b':Nat}(hb:b<n)(hb':b'<n)(h:a*n+b=a'*n+b'):a=a'∧b=b':=by
 have hn:0<n:=by omega
 have h1:(a*n+b)/n=a:=by rw[Nat.mul_comm,Nat.mul_add_div hn,Nat.div_eq_of_lt hb,Nat.add_zero]
 have h2:(a'*n+b')/n=a':=by rw[Nat.mul_comm,Nat.mul_add_div hn,Nat.div_eq_of_lt hb',Nat.add_zero]
 have h3:a=a':=by rw[← h1,←h2,h]
 subst h3;exact⟨rfl,by omega⟩
theorem f_A(l:List Int)(i j:Nat)(v:Int)(hi:i<l.length):(l.set i v).getD j 0=if i=j then v else l.getD j 0:=by
 by_cases h:i=j
 ·subst h;simp[List.getD,hi]
 ·simp[List.getD,h]
theorem k_I{l:List Int}{i:Nat}(h:i<l.length):l[i]?=some (l.getD i 0):=by simp[List.getD,h]
theorem t_n{n a b x y:Nat}{l:List Int}{v:Int}(hl:l.length=n*n)(ha:a<n)(hb:b<n)(hy:y<n):
 T n (l.set (a*n+b) v) x y=if a=x∧b=y then v else T n l x y:=by
 unfold T;rw[f_A _ _ _ _ (by rw[hl];exact e_s ha hb)];by_cases h:a=x∧b=y
 ·obtain⟨rfl,rfl⟩:=h;simp
 ·rw[if_neg h,if_neg]
  intro e;exact h (s_F hb hy e)
theorem IsMap.T_lo{n a b:Nat}{l:List Int}(h:IsMap n l)(ha:a<n)(hb:b<n):0≤T n l a b:=h.lo _ (e_s ha hb)
theorem IsMap.T_hi{n a b:Nat}{l:List Int}(h:IsMap n l)(ha:a<n)(hb:b<n):T n l a b≤1000000:=h.hi _ (e_s ha hb)
theorem Le.T{n a b:Nat}{d l:List Int}(h:Le n d l)(ha:a<n)(hb:b<n):T n d a b≤T n l a b:=h _ (e_s ha hb)
theorem Le.refl(n:Nat)(a:List Int):Le n a a:=fun _ _=>Int.le_refl _
theorem OnWay.refl{n:Nat}{o:List Int}(h:IsMap n o):OnWay n o o:=⟨h,Le.refl _ _,fun _ _ _ h=>h⟩
theorem OnWay.step{n a k b:Nat}{o l:List Int}{v:Int}(h:OnWay n o l)(ha:a<n)(hk:k<n)(hb:b<n)(hv:v=T n l a k+T n l k b)(hlt:v<T n l a b):
 OnWay n o (l.set (a*n+b) v):=by
 have hi:=e_s ha hb
 have hle:∀i,i<n*n→(l.set (a*n+b) v).getD i 0≤l.getD i 0:=by
  intro i _;rw[f_A _ _ _ _ (by rw[h.map.len];exact hi)];split
  ·rename_i e;subst e;exact Int.le_of_lt hlt
  ·exact Int.le_refl _
 refine⟨⟨by simp[h.map.len],?_,fun i hi'=>Int.le_trans (hle i hi') (h.map.hi i hi'),?_⟩,fun i hi'=>Int.le_trans (hle i hi') (h.le i hi'),?_⟩
 ·intro i hi'
  rw[f_A _ _ _ _ (by rw[h.map.len];exact hi)];split
  ·have:=h.map.T_lo ha hk
   have:=h.map.T_lo hk hb;omega
  ·exact h.map.lo i hi'
 ·intro x hx
  rw[t_n h.map.len ha hb hx];split
  ·rename_i e
   have h1:=h.map.T_lo ha hk;have h2:=h.map.T_lo hk hb;have h3:=h.map.diag x hx;rw[e.1,e.2]at hlt;omega
  ·exact h.map.diag x hx
 ·intro d hd ht hdo i hi'
  have hdl:=h.above d hd ht hdo;rw[f_A _ _ _ _ (by rw[h.map.len];exact hi)];split
  ·rename_i e
   subst e;have h1:=ht a ha k hk b hb;have h2:=hdl.T ha hk;have h3:=hdl.T hk hb;have h4:T n d a b=d.getD (a*n+b) 0:=rfl;omega
  ·exact hdl i hi'
theorem r_f{l:List Int}{i:Nat}:l.set i (l.getD i 0)=l:=by
 apply List.ext_getElem?;intro j;rw[List.getElem?_set];split
 ·rename_i e;subst e
  split
  ·rename_i h;rw[k_I h]
  ·rename_i h;rw[List.getElem?_eq_none (by omega)]
 ·rfl
theorem OnWay.min{n a k b:Nat}{o l:List Int}(h:OnWay n o l)(ha:a<n)(hk:k<n)(hb:b<n):
 OnWay n o (l.set (a*n+b) (Min.min (T n l a b) (T n l a k+T n l k b))):=by
 by_cases hlt:T n l a k+T n l k b<T n l a b
 ·rw[Int.min_eq_right (Int.le_of_lt hlt)]
  exact h.step ha hk hb rfl hlt
 ·rw[Int.min_eq_left (by omega),show T n l a b=l.getD (a*n+b) 0 from rfl,r_f]
  exact h
def Thru(n K:Nat)(l:List Int):Prop:=∀j,j<K→∀a,a<n→∀c,c<n→T n l a c≤T n l a j+T n l j c
theorem Thru.zero(n:Nat)(l:List Int):Thru n 0 l:=fun _ h=>absurd h (by omega)
theorem Thru.tri{n:Nat}{l:List Int}(h:Thru n n l):Tri n l:=fun a ha b hb c hc=>h b hb a ha c hc
def Phase(n k:Nat)(c l:List Int)(a b:Nat):Prop:=
 ∀x,x<n→∀y,y<n→T n l x y=if x<a∨(x=a∧y<b)then Min.min (T n c x y) (T n c x k+T n c k y)else T n c x y
theorem Phase.start(n k:Nat)(c:List Int):Phase n k c c 0 0:=fun x _ y _=>by rw[if_neg (by omega)]
theorem Phase.row{n k a:Nat}{c l:List Int}(h:Phase n k c l a n):Phase n k c l (a+1) 0:=fun x hx y hy=>by
 rw[h x hx y hy];by_cases h1:x<a∨(x=a∧y<n)
 ·rw[if_pos h1,if_pos (by omega)]
 ·rw[if_neg h1,if_neg (by omega)]
theorem Phase.col{n k a b x:Nat}{c l:List Int}(hc:IsMap n c)(hk:k<n)(h:Phase n k c l a b)(hx:x<n):T n l x k=T n c x k:=by
 rw[h x hx k hk,hc.diag k hk];split
 ·rw[Int.add_zero,Int.min_self]
 ·rfl
theorem Phase.rowk{n k a b y:Nat}{c l:List Int}(hc:IsMap n c)(hk:k<n)(h:Phase n k c l a b)(hy:y<n):T n l k y=T n c k y:=by
 rw[h k hk y hy,hc.diag k hk];split
 ·rw[Int.zero_add,Int.min_self]
 ·rfl
theorem Phase.min{n k a b:Nat}{c l:List Int}(hc:IsMap n c)(hl:l.length=n*n)(hk:k<n)(ha:a<n)(hb:b<n)(h:Phase n k c l a b):
 Phase n k c (l.set (a*n+b) (Min.min (T n l a b) (T n l a k+T n l k b))) a (b+1):=fun x hx y hy=>by
 rw[t_n hl ha hb hy];by_cases e:a=x∧b=y
 ·obtain⟨rfl,rfl⟩:=e
  rw[if_pos ⟨rfl,rfl⟩,if_pos (by omega),h.col hc hk ha,h.rowk hc hk hb,h a ha b hb,if_neg (by omega)]
 ·rw[if_neg e,h x hx y hy]
  by_cases h1:x<a∨(x=a∧y<b)
  ·rw[if_pos h1,if_pos (by omega)]
  ·rw[if_neg h1,if_neg (by omega)]
theorem Phase.thru{n k:Nat}{c l:List Int}(hc:IsMap n c)(hk:k<n)(ht:Thru n k c)(h:Phase n k c l n 0):Thru n (k+1) l:=by
 intro j hj a ha b hb;have e:∀x,x<n→∀y,y<n→T n l x y=Min.min (T n c x y) (T n c x k+T n c k y):=fun x hx y hy=>by rw[h x hx y hy,if_pos (by omega)]
 rcases Nat.lt_or_ge j k with hjk|hjk
 ·have hjn:j<n:=by omega
  rw[e a ha b hb,e a ha j hjn,e j hjn b hb];have h1:=ht j hjk a ha b hb;have h2:=ht j hjk k hk b hb;have h3:=ht j hjk a ha k hk;have h4:=hc.T_lo hk hjn;have h5:=hc.T_lo hjn hk;omega
 ·obtain rfl:j=k:=by omega
  rw[h.col hc hk ha,h.rowk hc hk hb,e a ha b hb];exact Int.min_le_right _ _
def newE(n:Int)(l:List Int):Int:=
 if n<1∨12<n then 1
 else if(l.length:Int)≠n*n then 2
 else if ∃x∈l,x<0∨1000000<x then 7
 else if ∃a,a<n.toNat∧T n.toNat l a a≠0 then 4 else 0
theorem k_J{n:Nat}{l:List Int}(h:newE n l=0):1≤n∧n≤12∧IsMap n l:=by
 unfold newE at h;split at h
 ·omega
 split at h
 ·omega
 split at h
 ·omega
 split at h
 ·omega
 rename_i h1 h2 h3 h4
 have hlen:l.length=n*n:=by
  have:(l.length:Int)=((n*n:Nat):Int):=by rw[Int.natCast_mul];exact Decidable.not_not.1 h2
  omega
 have hmem:∀i,i<n*n→¬(l.getD i 0<0∨1000000<l.getD i 0):=by
  intro i hi hx;exact h3 ⟨_,List.mem_of_getElem? (k_I (by omega:i<l.length)),hx⟩
 refine⟨by omega,by omega,hlen,?_,?_,?_⟩
 ·intro i hi;have:=hmem i hi;omega
 ·intro i hi;have:=hmem i hi;omega
 ·intro a ha
  exact Decidable.not_not.1 fun hne=>h4 ⟨a,by simpa using ha,by simpa using hne⟩
theorem e_t{n:Int}{l:List Int}(h:n<1∨12<n):newE n l=1:=by unfold newE;rw[if_pos h]
theorem i_Z{n:Int}{l:List Int}(h:¬(n<1∨12<n))(h2:(l.length:Int)≠n*n):newE n l=2:=by unfold newE;rw[if_neg h,if_pos h2]
theorem e_u{n:Nat}{l:List Int}(h:¬((n:Int)<1∨12<(n:Int)))(h2:l.length=n*n){x:Int}(hx:x∈l)(hb:x<0∨1000000<x):newE n l=7:=by
 unfold newE;rw[if_neg h,if_neg (by rw[h2,Int.natCast_mul];simp),if_pos ⟨x,hx,hb⟩]
theorem i_0{n:Nat}{l:List Int}(h:¬((n:Int)<1∨12<(n:Int)))(h2:l.length=n*n)(h3:∀x∈l,0≤x∧x≤1000000){a:Nat}(ha:a<n)(hd:T n l a a≠0):newE n l=4:=by
 unfold newE;rw[if_neg h,if_neg (by rw[h2,Int.natCast_mul];simp),if_neg (by rintro⟨x,hx,hb⟩;have:=h3 x hx;omega),if_pos ⟨a,by simpa using ha,by simpa using hd⟩]
theorem i_1{n:Nat}{l:List Int}(h:¬((n:Int)<1∨12<(n:Int)))(h2:l.length=n*n)(h3:∀x∈l,0≤x∧x≤1000000)(h4:∀a,a<n→T n l a a=0):newE n l=0:=by
 unfold newE;rw[if_neg h,if_neg (by rw[h2,Int.natCast_mul];simp),if_neg (by rintro⟨x,hx,hb⟩;have:=h3 x hx;omega),if_neg (by rintro⟨a,ha,hd⟩;exact hd (by simpa using h4 a (by simpa using ha)))]
end GeoMath
namespace FleetMath
open GeoMath
structure Win where
  fr : Int
  to : Int
structure Site where
 place:Int
 win:Win
 serv:Int
structure Ord where
 id:Int
 size:Int
 pick:Site
 drop:Site
structure Drv where
 id:Int
 room:Int
 home:Int
 win:Win
 retired:Bool
structure Stp where
 ord:Int
 drop:Bool
structure Vis where
 stop:Stp
 arrive:Int
 start:Int
 leave:Int
 load:Int
structure Mp where
 n:Nat
 ts:List Int
theorem Stp.ext_iff'{a b:Stp}:a=b↔a.ord=b.ord∧a.drop=b.drop:=by cases a;cases b;simp
instance:DecidableEq Stp:=fun a b=>decidable_of_iff (a.ord=b.ord∧a.drop=b.drop) Stp.ext_iff'.symm
def right(w:Win):Bool:=decide (0≤w.fr∧w.fr≤w.to∧w.to≤1000000)
def has(w:Win)(t:Int):Bool:=right w && decide (w.fr≤t∧t≤w.to)
def a_3(w:Win)(a:Int):Option Int:=if right w=false∨w.to<a then none else some (if a<w.fr then w.fr else a)
theorem right_iff{w:Win}:right w=true↔0≤w.fr∧w.fr≤w.to∧w.to≤1000000:=by simp[right]
theorem has_iff{w:Win}{t:Int}:has w t=true↔right w=true∧w.fr≤t∧t≤w.to:=by simp[has]
theorem beginT_some{w:Win}{a b:Int}:a_3 w a=some b↔right w=true∧a≤w.to∧b=(if a<w.fr then w.fr else a):=by
 unfold a_3;split
 ·rename_i h
  constructor
  ·intro h';cases h'
  ·rintro⟨h1,h2,_⟩
   rcases h with h|h
   ·rw[h1]at h;cases h
   ·omega
 ·rename_i h
  have h1:right w=true:=by
   cases hr:right w
   ·exact absurd (Or.inl hr) h
   ·rfl
  have h2:a≤w.to:=by
   have:¬w.to<a:=fun h'=>h (Or.inr h');omega
  constructor
  ·intro h';injection h' with h';exact⟨h1,h2,h'.symm⟩
  ·rintro⟨_,_,rfl⟩;rfl
theorem c_c{w:Win}{a b:Int}(h:a_3 w a=some b):has w b=true∧a≤b∧w.fr≤b∧b≤w.to∧(b=a∨b=w.fr):=by
 obtain⟨h1,h2,rfl⟩:=beginT_some.1 h;have h3:=right_iff.1 h1;rw[has_iff];split<;>refine⟨⟨h1,?_,?_⟩,?_,?_,?_,?_⟩<;>omega
def a_P(m:Mp)(p:Int):Bool:=decide (0≤p∧p<m.n)
def time (m:Mp) (a b:Int):Int:=if a_P m a=true∧a_P m b=true then T m.n m.ts a.toNat b.toNat else 0
def ordE:Option Mp→Ord→Int
 |none,_=>1
 |some m,o=>
  if o.id<1∨1000000<o.id then 1
  else if o.size<1∨1000<o.size then 14
  else if a_P m o.pick.place=false∨a_P m o.drop.place=false then 12
  else if right o.pick.win=false∨right o.drop.win=false then 13
  else if o.pick.serv<0∨1000000<o.pick.serv∨o.drop.serv<0∨1000000<o.drop.serv then 7 else 0
def drvE:Option Mp→Drv→Int
 |none,_=>1
 |some m,d=>
  if d.id<1∨1000000<d.id then 1
  else if d.room<1∨1000<d.room then 14
  else if a_P m d.home=false then 12
  else if right d.win=false then 13 else 0
def Dist(os:List Ord):Prop:=os.Pairwise fun a b=>a.id≠b.id
instance(os:List Ord):Decidable (Dist os):=by unfold Dist;infer_instance
def a_V(m:Option Mp)(os:List Ord):Bool:=decide (os.length≤40∧(∀ o∈os,ordE m o=0)∧Dist os)
structure OrdOk(m:Mp)(o:Ord):Prop where
 id:1≤o.id∧o.id≤1000000
 size:1≤o.size∧o.size≤1000
 pickP:a_P m o.pick.place=true
 dropP:a_P m o.drop.place=true
 pickW:right o.pick.win=true
 dropW:right o.drop.win=true
 pickS:0≤o.pick.serv∧o.pick.serv≤1000000
 dropS:0≤o.drop.serv∧o.drop.serv≤1000000
structure DrvOk(m:Mp)(d:Drv):Prop where
 id:1≤d.id∧d.id≤1000000
 room:1≤d.room∧d.room≤1000
 home:a_P m d.home=true
 win:right d.win=true
theorem i_2(m:Mp)(o:Ord):ordE (some m) o=
 if o.id<1∨1000000<o.id then 1
 else if o.size<1∨1000<o.size then 14
 else if a_P m o.pick.place=false∨a_P m o.drop.place=false then 12
 else if right o.pick.win=false∨right o.drop.win=false then 13
 else if o.pick.serv<0∨1000000<o.pick.serv∨o.drop.serv<0∨1000000<o.drop.serv then 7 else 0:=rfl
theorem i_3(m:Mp)(d:Drv):drvE (some m) d=
 if d.id<1∨1000000<d.id then 1
 else if d.room<1∨1000<d.room then 14
 else if a_P m d.home=false then 12
 else if right d.win=false then 13 else 0:=rfl
theorem not_false{b:Bool}:¬b=false↔b=true:=by cases b<;>simp
theorem ordE_ok{m:Option Mp}{o:Ord}:ordE m o=0↔∃m',m=some m'∧OrdOk m' o:=by
 cases m with
 |none=>simp[ordE]
 |some m=>
  rw[i_2];constructor
  ·intro h
   refine⟨m,rfl,?_⟩;split at h
   ·omega
   split at h
   ·omega
   split at h
   ·omega
   split at h
   ·omega
   split at h
   ·omega
   rename_i h1 h2 h3 h4 h5
   simp only[not_or,not_false]at h3 h4;exact⟨by omega,by omega,h3.1,h3.2,h4.1,h4.2,by omega,by omega⟩
  ·rintro⟨m',e,h⟩
   injection e with e;subst e;rw[if_neg (by have:=h.id;omega),if_neg (by have:=h.size;omega),if_neg (by simp[h.pickP,h.dropP]),if_neg (by simp[h.pickW,h.dropW]),if_neg (by have:=h.pickS;have:=h.dropS;omega)]
theorem drvE_ok{m:Option Mp}{d:Drv}:drvE m d=0↔∃m',m=some m'∧DrvOk m' d:=by
 cases m with
 |none=>simp[drvE]
 |some m=>
  rw[i_3];constructor
  ·intro h
   refine⟨m,rfl,?_⟩;split at h
   ·omega
   split at h
   ·omega
   split at h
   ·omega
   split at h
   ·omega
   rename_i h1 h2 h3 h4
   simp only[not_false]at h3 h4;exact⟨by omega,by omega,h3,h4⟩
  ·rintro⟨m',e,h⟩
   injection e with e;subst e;rw[if_neg (by have:=h.id;omega),if_neg (by have:=h.room;omega),if_neg (by simp[h.home]),if_neg (by simp[h.win])]
def served(m:Mp)(frm left:Int)(s:Site)(til:Int):Option (Int×Int):=
 match a_3 s.win (left+time m frm s.place)with
 |none=>none
 |some b=>if til<b+s.serv then none else some (b,b+s.serv)
theorem served_some{m:Mp}{f l til b v:Int}{s:Site}:served m f l s til=some (b,v)↔a_3 s.win (l+time m f s.place)=some b∧v=b+s.serv∧v≤til:=by
 unfold served;split
 ·rename_i h;simp[h]
 ·rename_i x h
  rw[h];split
  ·rename_i h2
   constructor
   ·intro h';cases h'
   ·rintro⟨e,rfl,h3⟩;injection e with e;omega
  ·rename_i h2
   constructor
   ·intro h';injection h' with h';injection h' with h3 h4;subst h3;subst h4;exact⟨rfl,rfl,by omega⟩
   ·rintro⟨e,rfl,_⟩;injection e with e;subst e;rfl
def t_H(m:Option Mp)(d:Drv)(o:Ord):Option Int:=
 match m with
 |none=>none
 |some m'=>
  if ordE m o≠0∨drvE m d≠0∨d.room<o.size then none
  else match served m' d.home d.win.fr o.pick d.win.to with
   |none=>none
   |some (_,l)=>match served m' o.pick.place l o.drop d.win.to with
    |none=>none
    |some (_,v)=>some v
def find(os:List Ord)(id:Int):Option Ord:=os.find? fun o=>decide (o.id=id)
def a_e(o:Ord)(s:Stp):Site:=if s.drop then o.drop else o.pick
def a_k(o:Ord)(s:Stp)(l:Int):Int:=if s.drop then l-o.size else l+o.size
theorem c_d{os:List Ord}{id:Int}{o:Ord}(h:find os id=some o):o∈os∧o.id=id:=by
 refine⟨List.mem_of_find?_eq_some h,?_⟩;have:=List.find?_some h;simpa using this
theorem l_K{os:List Ord}{o:Ord}(hd:Dist os)(h:o∈os):find os o.id=some o:=by
 induction os with
 |nil=>cases h
 |cons x xs ih=>
  obtain⟨h1,h2⟩:=List.pairwise_cons.1 hd;rcases List.mem_cons.1 h with rfl|h
  ·simp[find]
  ·have hne:x.id≠o.id:=h1 o h
   have:=ih h2 h;simpa[find,hne]using this
theorem find_none{os:List Ord}{id:Int}:find os id=none↔∀o∈os,o.id≠id:=by simp[find]
structure St where
 at_:Int
 left:Int
 load:Int
def step(m:Mp)(d:Drv)(os:List Ord)(seen:List Stp)(st:St)(s:Stp):Except Int (St×Vis):=
 match find os s.ord with
 |none=>.error 8
 |some o=>
  if s∈seen then .error 16
  else if s.drop=true∧Stp.mk s.ord false∉seen then .error 17
  else if d.room<a_k o s st.load then .error 14
  else match served m st.at_ st.left (a_e o s) d.win.to with
   |none=>.error 15
   |some (b,v)=>.ok (⟨(a_e o s).place,v,a_k o s st.load⟩,⟨s,st.left+time m st.at_ (a_e o s).place,b,v,a_k o s st.load⟩)
def run(m:Mp)(d:Drv)(os:List Ord):List Stp→St→List Stp→Except (Nat×Int) (St×List Vis)
 |_,st,[]=>.ok (st,[])
 |seen,st,s::r=>
  match step m d os seen st s with
  | .error e=>.error (seen.length,e)
  | .ok (st',v)=>
    match run m d os (seen++[s]) st' r with
    | .error x=>.error x
    | .ok (st'',vs)=>.ok (st'',v::vs)
def st0(d:Drv):St:=⟨d.home,d.win.fr,0⟩
def d_W(m:Mp)(d:Drv)(os:List Ord)(stops:List Stp):List Vis×Nat×Int:=
 match run m d os [] (st0 d) stops with
 | .error (k,e)=>([],k,e)
 | .ok (st,vs)=>if 0<st.load then([],stops.length,18)else(vs,0,0)
def a_J(m:Option Mp)(d:Drv)(os:List Ord)(stops:List Stp):List Vis×Nat×Int:=
 match m with
 |none=>([],0,1)
 |some m'=>if drvE m d≠0∨a_V m os=false∨80<stops.length then([],0,1)else d_W m' d os stops
section
variable {m : Mp} {d : Drv} {os : List Ord}
theorem f_7(seen:List Stp)(st:St):run m d os seen st []=.ok (st,[]):=rfl
theorem b_c(seen:List Stp)(st:St)(s:Stp)(r:List Stp):run m d os seen st (s::r)=
 match step m d os seen st s with
 | .error e=>.error (seen.length,e)
 | .ok (st',v)=>
   match run m d os (seen++[s]) st' r with
   | .error x=>.error x
   | .ok (st'',vs)=>.ok (st'',v::vs):=rfl
theorem c_Y(seen:List Stp)(st:St)(xs ys:List Stp):
 run m d os seen st (xs++ys)=match run m d os seen st xs with
  | .error x=>.error x
  | .ok (st',vs)=>match run m d os (seen++xs) st' ys with
    | .error x=>.error x
    | .ok (st'',us)=>.ok (st'',vs++us):=by
 induction xs generalizing seen st with
 |nil=>
  simp only[List.nil_append,List.append_nil,run];split<;>simp_all
 |cons s r ih=>
  rw[List.cons_append,b_c,b_c];cases hs:step m d os seen st s with
  |error e=>rfl
  |ok p=>
   obtain⟨st',v⟩:=p;simp only[ih,List.append_assoc,List.singleton_append];cases hr:run m d os (seen++[s]) st' r with
   |error x=>rfl
   |ok q=>
    obtain⟨st2,vs⟩:=q;simp only;cases run m d os (seen++s::r) st2 ys with
    |error x=>rfl
    |ok q=>rfl
theorem k_K{seen:List Stp}{st st':St}{xs:List Stp}{vs:List Vis}(h:run m d os seen st xs=.ok (st',vs)):vs.length=xs.length:=by
 induction xs generalizing seen st st' vs with
 |nil=>rw[f_7]at h;injection h with h;injection h with _ h;rw[← h];rfl
 |cons s r ih=>
  rw[b_c]at h;split at h
  ·cases h
  ·split at h
   ·cases h
   ·rename_i hr
    injection h with h;injection h with _ h;rw[← h];simp[ih hr]
theorem m_X{seen:List Stp}{st st':St}{xs ys:List Stp}{vs:List Vis}(h:run m d os seen st (xs++ys)=.ok (st',vs)):
 ∃st1,run m d os seen st xs=.ok (st1,vs.take xs.length)∧run m d os (seen++xs) st1 ys=.ok (st',vs.drop xs.length):=by
 rw[c_Y]at h;cases h1:run m d os seen st xs with
 |error x=>rw[h1]at h;cases h
 |ok p=>
  obtain⟨st1,us⟩:=p;rw[h1]at h;simp only at h;cases h2:run m d os (seen++xs) st1 ys with
  |error x=>rw[h2]at h;cases h
  |ok q=>
   obtain⟨st2,ws⟩:=q;rw[h2]at h;simp only at h;injection h with h;injection h with e1 e2;subst e1;subst e2;have:=k_K h1;exact⟨st1,by rw[← this,List.take_left],by rw[← this,List.drop_left];exact h2⟩
theorem t_o{seen:List Stp}{st st':St}{xs:List Stp}{vs:List Vis}(h:run m d os seen st xs=.ok (st',vs)){k:Nat}{s:Stp}(hk:xs[k]?=some s):
 ∃st1 st2 v,run m d os seen st (xs.take k)=.ok (st1,vs.take k)∧vs[k]?=some v∧step m d os (seen++xs.take k) st1 s=.ok (st2,v)∧run m d os seen st (xs.take (k+1))=.ok (st2,vs.take (k+1)):=by
 have hlt:k<xs.length:=(List.getElem?_eq_some_iff.1 hk).1;have hs:xs[k]=s:=(List.getElem?_eq_some_iff.1 hk).2
 have hx:xs.take k++(s::xs.drop (k+1))=xs:=by
  rw[← hs,List.getElem_cons_drop,List.take_append_drop]
 have hlen:(xs.take k).length=k:=by rw[List.length_take];omega
 rw[← hx]at h;obtain⟨st1,h1,h2⟩:=m_X h;rw[hlen]at h1 h2;rw[b_c]at h2;split at h2
 ·cases h2
 ·rename_i st2 v hst
  split at h2
  ·cases h2
  ·rename_i st3 us hr
   injection h2 with h2;injection h2 with e1 e2
   have hvk:vs[k]?=some v:=by
    have:(vs.drop k)[0]?=some v:=by rw[← e2];rfl
    simpa using this
   refine⟨st1,st2,v,h1,hvk,hst,?_⟩;rw[List.take_add_one,hk,c_Y,h1];simp only[Option.toList,run,hst];rw[List.take_add_one,hvk];rfl
theorem o_4{seen:List Stp}{st:St}{xs:List Stp}{k:Nat}{e:Int}(h:run m d os seen st xs=.error (k,e)):
 ∃s,seen.length≤k∧xs[k-seen.length]?=some s∧∃st1 vs,run m d os seen st (xs.take (k-seen.length))=.ok (st1,vs)∧step m d os (seen++xs.take (k-seen.length)) st1 s=.error e:=by
 induction xs generalizing seen st with
 |nil=>rw[f_7]at h;cases h
 |cons s r ih=>
  rw[b_c]at h;split at h
  ·rename_i e' hs
   injection h with h;injection h with h1 h2;subst h1;subst h2;refine⟨s,Nat.le_refl _,by simp,st,[],by simp[run],by simpa using hs⟩
  ·rename_i st1 v hs
   split at h
   ·rename_i x hr
    injection h with h;subst h;obtain⟨s',h1,h2,st2,us,h3,h4⟩:=ih hr;rw[List.length_append,List.length_singleton]at h1 h2 h3 h4;obtain⟨c,hc⟩:∃c,k-seen.length=c+1:=⟨k-seen.length-1,by omega⟩;have hc':k-(seen.length+1)=c:=by omega
    rw[hc']at h2 h3 h4;rw[hc];refine⟨s',by omega,by simpa using h2,st2,v::us,?_,?_⟩
    ·rw[List.take_succ_cons,b_c,hs];simp only[h3]
    ·rw[List.take_succ_cons];simpa using h4
   ·cases h
theorem i_4{seen:List Stp}{st st1:St}{xs:List Stp}{vs:List Vis}{s:Stp}{e:Int}(h1:run m d os seen st xs=.ok (st1,vs))(h2:step m d os (seen++xs) st1 s=.error e)(ys:List Stp):
 run m d os seen st (xs++s::ys)=.error (seen.length+xs.length,e):=by
 rw[c_Y,h1];simp only;rw[b_c,h2];simp
structure Made(m:Mp)(d:Drv)(os:List Ord)(seen:List Stp)(st:St)(s:Stp)(o:Ord)(st':St)(v:Vis):Prop where
 find:find os s.ord=some o
 new:s∉seen
 first:s.drop=true→Stp.mk s.ord false∈seen
 load:a_k o s st.load≤d.room
 serve:served m st.at_ st.left (a_e o s) d.win.to=some (v.start,v.leave)
 st':st'=⟨(a_e o s).place,v.leave,a_k o s st.load⟩
 stop:v.stop=s
 arrive:v.arrive=st.left+time m st.at_ (a_e o s).place
 vload:v.load=a_k o s st.load
theorem step_ok{seen:List Stp}{st st':St}{s:Stp}{v:Vis}:step m d os seen st s=.ok (st',v)↔∃o,Made m d os seen st s o st' v:=by
 unfold step;constructor
 ·intro h
  split at h
  ·cases h
  rename_i o ho
  split at h
  ·cases h
  split at h
  ·cases h
  split at h
  ·cases h
  split at h
  ·cases h
  rename_i h1 h2 h3 _ b t hs
  injection h with h;injection h with e1 e2;subst e1;subst e2;exact⟨o,ho,h1,fun hd=>Decidable.not_not.1 fun hn=>h2 ⟨hd,hn⟩,by omega,hs,rfl,rfl,rfl,rfl⟩
 ·rintro⟨o,h⟩
  rw[h.find];simp only;rw[if_neg h.new,if_neg (fun hd=>hd.2 (h.first hd.1)),if_neg (by have:=h.load;omega),h.serve];simp only;obtain⟨a,b,c,e,f⟩:=v;have h1:=h.st';have h2:=h.stop;have h3:=h.arrive;have h4:=h.vload;simp only at h1 h2 h3 h4;rw[h1,h2,h3,h4]
def sizeOf(os:List Ord)(id:Int):Int:=match find os id with|none=>0|some o=>o.size
structure Open(os:List Ord)(seen:List Stp)(l:Int)(opn:List Int):Prop where
 mem:∀id,id∈opn↔Stp.mk id false∈seen∧Stp.mk id true∉seen
 drops:∀id,Stp.mk id true∈seen→Stp.mk id false∈seen
 nodup:opn.Nodup
 sum:l=(opn.map (sizeOf os)).sum
theorem o_5(f:Int→Int){l:List Int}{x:Int}(h:x∈l):(l.map f).sum=f x+((l.erase x).map f).sum:=by
 induction l with
 |nil=>cases h
 |cons y ys ih=>
  by_cases hxy:y=x
  ·subst hxy;simp
  ·have hb:(y==x)=false:=by simpa using hxy
   rw[List.erase_cons,hb];have:=ih (by rcases List.mem_cons.1 h with h|h;exact absurd h.symm hxy;exact h);simp only[List.map_cons,List.sum_cons,this,Bool.false_eq_true,if_false];omega
theorem o_6(os:List Ord)(hs:∀o∈os,1≤o.size)(l:List Int):0≤(l.map (sizeOf os)).sum:=by
 induction l with
 |nil=>simp
 |cons x xs ih=>
  have:0≤sizeOf os x:=by
   unfold sizeOf;split
   ·omega
   ·rename_i o ho;have:=hs o (c_d ho).1;omega
  simp only[List.map_cons,List.sum_cons];omega
theorem Open.start(os:List Ord):Open os [] 0 []:=⟨by simp,by simp,List.nodup_nil,rfl⟩
theorem Open.step{seen:List Stp}{st st':St}{s:Stp}{v:Vis}{o:Ord}{opn:List Int}(h:Open os seen st.load opn)(hm:Made m d os seen st s o st' v):
 ∃opn',Open os (seen++[s]) st'.load opn':=by
 have hsz:sizeOf os s.ord=o.size:=by unfold sizeOf;rw[hm.find]
 obtain⟨id,dr⟩:=s;rw[hm.st'];cases dr with
 |false=>
  refine⟨id::opn,fun x=>?_,fun x hx=>?_,?_,?_⟩
  ·rw[List.mem_cons,List.mem_append,List.mem_append,h.mem]
   by_cases hx:x=id
   ·subst hx
    have hn:Stp.mk x true∉seen:=fun ht=>hm.new (h.drops x ht);simp[hn]
   ·simp[hx]
  ·rcases List.mem_append.1 hx with hx|hx
   ·exact List.mem_append.2 (Or.inl (h.drops x hx))
   ·simp at hx
  ·refine List.nodup_cons.2 ⟨fun hin=>?_,h.nodup⟩
   exact hm.new ((h.mem id).1 hin).1
  ·simp only[a_k,List.map_cons,List.sum_cons,←h.sum,hsz,Bool.false_eq_true,if_false]
   omega
 |true=>
  have hin:id∈opn:=(h.mem id).2 ⟨hm.first rfl,hm.new⟩;refine⟨opn.erase id,fun x=>?_,fun x hx=>?_,h.nodup.erase _,?_⟩
  ·rw[h.nodup.mem_erase_iff,List.mem_append,List.mem_append,h.mem]
   by_cases hx:x=id
   ·subst hx;simp
   ·simp[hx]
  ·rcases List.mem_append.1 hx with hx|hx
   ·exact List.mem_append.2 (Or.inl (h.drops x hx))
   ·simp only[List.mem_singleton,Stp.mk.injEq,and_true]at hx
    rw[hx];exact List.mem_append.2 (Or.inl (hm.first rfl))
  ·have:=o_5 (sizeOf os) hin
   simp only[a_k,if_true];rw[h.sum,this,hsz];omega
end
end FleetMath
namespace FleetMath
open GeoMath
theorem known_iff{m:Option Mp}{os:List Ord}:a_V m os=true↔os.length≤40∧(∀ o∈os,ordE m o=0)∧Dist os:=by simp[a_V]
theorem e_v{m:Mp}{os:List Ord}(h:a_V (some m) os=true):∀o∈os,OrdOk m o:=fun o ho=>by
 obtain⟨m',e,h'⟩:=ordE_ok.1 ((known_iff.1 h).2.1 o ho);injection e with e;rw[e];exact h'
theorem c_Z{m:Mp}{d:Drv}{os:List Ord}{stops:List Stp}(h1:drvE (some m) d=0)(h2:a_V (some m) os=true)(h3:stops.length≤80):
 a_J (some m) d os stops=d_W m d os stops:=by
 unfold a_J;simp only;rw[if_neg];rintro(h|h|h)
 ·exact h h1
 ·rw[h2]at h;cases h
 ·omega
theorem e_w{m:Option Mp}{d:Drv}{os:List Ord}{stops:List Stp}(h:drvE m d≠0∨a_V m os=false∨80<stops.length):a_J m d os stops=([],0,1):=by
 unfold a_J;split
 ·rfl
 ·rw[if_pos h]
section
variable {m : Mp} {d d' : Drv} {os ps : List Ord}
theorem r_g{seen:List Stp}{st st':St}{xs:List Stp}{vs:List Vis}{opn:List Int}(h:run m d os seen st xs=.ok (st',vs))(ho:Open os seen st.load opn):∃opn',Open os (seen++xs) st'.load opn':=by
 induction xs generalizing seen st vs opn with
 |nil=>rw[f_7]at h;injection h with h;injection h with h _;subst h;exact⟨opn,by simpa using ho⟩
 |cons s r ih=>
  rw[b_c]at h;split at h
  ·cases h
  rename_i st1 v hs
  split at h
  ·cases h
  rename_i st2 us hr
  injection h with h;injection h with e1 e2;subst e1;obtain⟨o,hm⟩:=step_ok.1 hs;obtain⟨opn1,ho1⟩:=ho.step hm;obtain⟨opn2,ho2⟩:=ih hr ho1;exact⟨opn2,by simpa using ho2⟩
theorem m_Y{seen:List Stp}{st:St}{s:Stp}(h:find os s.ord=find ps s.ord):step m d os seen st s=step m d ps seen st s:=by
 unfold step;rw[h]
theorem o_7{seen:List Stp}{st:St}{xs:List Stp}(h:∀s∈xs,find os s.ord=find ps s.ord):run m d os seen st xs=run m d ps seen st xs:=by
 induction xs generalizing seen st with
 |nil=>rfl
 |cons s r ih=>
  rw[b_c,b_c,m_Y (h s (by simp))];simp only[ih fun x hx=>h x (by simp[hx])]
theorem i_5{xs:List Stp}(h:∀s∈xs,find os s.ord=find ps s.ord):d_W m d os xs=d_W m d ps xs:=by
 unfold d_W;rw[o_7 h]
end
end FleetMath
namespace FleetMath
open GeoMath
def e_x(os:List Ord)(s:Stp):Site:=match find os s.ord with|none=>⟨0,⟨0,0⟩,0⟩|some o=>a_e o s
theorem o_8{os:List Ord}{s:Stp}{o:Ord}(h:find os s.ord=some o):e_x os s=a_e o s:=by unfold e_x;rw[h]
def putM(l:List Stp)(o:Int)(i j:Nat):List Stp:=l.take i++⟨o,false⟩::((l.drop i).take (j-i)++⟨o,true⟩::l.drop j)
theorem f_B{l:List Stp}{o:Int}{i j:Nat}(hij:i≤j)(hj:j≤l.length):(putM l o i j).length=l.length+2:=by
 unfold putM;simp only[List.length_append,List.length_cons,List.length_take,List.length_drop];omega
def putR(l:List Stp)(o i j:Int):List Stp:=if 0≤i∧i≤j∧j≤l.length then putM l o i.toNat j.toNat else []
theorem o_9{l:List Stp}{o i j:Int}(h:¬(0≤i∧i≤j∧j≤l.length)):putR l o i j=[]:=if_neg h
theorem l_L{l:List Stp}{o:Int}{i j:Nat}(hij:i≤j)(hj:j≤l.length):putR l o i j=putM l o i j:=by
 unfold putR;rw[if_pos (by omega)];rfl
def f_8(m:Mp)(os:List Ord):Int→List Stp→Int
 |_,[]=>0
 |a,s::r=>time m a (e_x os s).place+f_8 m os (e_x os s).place r
def cost(m:Option Mp)(d:Drv)(os:List Ord)(stops:List Stp):Option Int:=
 match m with
 |none=>none
 |some m'=>if(a_J m d os stops).2.2=0 then some (f_8 m' os d.home stops)else none
theorem k_L{m:Mp}{os:List Ord}(hm:∀a b,0≤time m a b∧time m a b≤1000000)(a:Int)(l:List Stp):0≤f_8 m os a l∧f_8 m os a l≤1000000*(l.length:Int):=by
 induction l generalizing a with
 |nil=>simp[f_8]
 |cons s r ih=>
  have h1:=hm a (e_x os s).place;have h2:=ih (e_x os s).place;simp only[f_8,List.length_cons];omega
theorem b_F{m:Option Mp}{d:Drv}{os:List Ord}{stops:List Stp}(h:(a_J m d os stops).2.2=0):∃m' st,m=some m'∧run m' d os [] (st0 d) stops=.ok (st,(a_J m d os stops).1)∧stops.length≤80∧a_V m os=true∧drvE m d=0:=by
 cases m with
 |none=>simp[a_J]at h
 |some m'=>
  by_cases hb:drvE (some m') d≠0∨a_V (some m') os=false∨80<stops.length
  ·rw[e_w hb]at h
   simp at h
  ·have h1:drvE (some m') d=0:=Decidable.not_not.1 fun hx=>hb (.inl hx)
   have h2:a_V (some m') os=true:=by
    cases hk:a_V (some m') os
    ·exact absurd (.inr (.inl hk)) hb
    ·rfl
   have h3:stops.length≤80:=by
    have:¬80<stops.length:=fun hx=>hb (.inr (.inr hx));omega
   rw[c_Z h1 h2 h3]at h ⊢;unfold d_W at h ⊢;cases hr:run m' d os [] (st0 d) stops with
   |error x=>
    obtain⟨k,e⟩:=x;obtain⟨s,_,hs,st1,vs,_,hst⟩:=o_4 hr;rw[hr]at h;simp only at h;subst h;exfalso;unfold step at hst;split at hst
    ·injection hst with hst;omega
    ·split at hst
     ·injection hst with hst;omega
     ·split at hst
      ·injection hst with hst;omega
      ·split at hst
       ·injection hst with hst;omega
       ·split at hst
        ·injection hst with hst;omega
        ·cases hst
   |ok p=>
    obtain⟨st,vs⟩:=p;rw[hr]at h;simp only at h ⊢;split at h
    ·simp at h
    ·rename_i hl
     rw[if_neg hl];exact⟨m',st,rfl,by rw[hr],h3,h2,h1⟩
theorem f_9{m:Option Mp}{d:Drv}{os:List Ord}{stops:List Stp}(h:(a_J m d os stops).2.2=0){k:Nat}{s:Stp}(hk:stops[k]?=some s):∃o,find os s.ord=some o:=by
 obtain⟨m',st,_,hr,_⟩:=b_F h;obtain⟨st1,st2,v,_,_,h3,_⟩:=t_o hr hk;obtain⟨o,hm⟩:=step_ok.1 h3;exact⟨o,hm.find⟩
section
variable {m : Mp} {d : Drv} {os : List Ord} {seen : List Stp} {st : St} {s : Stp} {o : Ord}
theorem i_6(h:find os s.ord=none):step m d os seen st s=.error 8:=by unfold step;rw[h]
theorem m_Z(h:find os s.ord=some o)(h1:s∈seen):step m d os seen st s=.error 16:=by unfold step;rw[h];simp only;rw[if_pos h1]
theorem m_0(h:find os s.ord=some o)(h1:s∉seen)(h2:s.drop=true)(h3:Stp.mk s.ord false∉seen):step m d os seen st s=.error 17:=by unfold step;rw[h];simp only;rw[if_neg h1,if_pos ⟨h2,h3⟩]
theorem p_a(h:find os s.ord=some o)(h1:s∉seen)(h2:s.drop=true→Stp.mk s.ord false∈seen)(h3:d.room<a_k o s st.load):step m d os seen st s=.error 14:=by
 unfold step;rw[h];simp only;rw[if_neg h1,if_neg (fun hd=>hd.2 (h2 hd.1)),if_pos h3]
theorem m_1(h:find os s.ord=some o)(h1:s∉seen)(h2:s.drop=true→Stp.mk s.ord false∈seen)(h3:a_k o s st.load≤d.room)(h4:served m st.at_ st.left (a_e o s) d.win.to=none):step m d os seen st s=.error 15:=by
 unfold step;rw[h];simp only;rw[if_neg h1,if_neg (fun hd=>hd.2 (h2 hd.1)),if_neg (by omega),h4]
theorem g_a{b v:Int}(h:find os s.ord=some o)(h1:s∉seen)(h2:s.drop=true→Stp.mk s.ord false∈seen)(h3:a_k o s st.load≤d.room)(h4:served m st.at_ st.left (a_e o s) d.win.to=some (b,v)):
 step m d os seen st s=.ok (⟨(a_e o s).place,v,a_k o s st.load⟩,⟨s,st.left+time m st.at_ (a_e o s).place,b,v,a_k o s st.load⟩):=by
 unfold step;rw[h];simp only;rw[if_neg h1,if_neg (fun hd=>hd.2 (h2 hd.1)),if_neg (by omega),h4]
end
theorem l_M{l:List Stp}{k:Nat}{s:Stp}(h:l[k]?=some s):l=l.take k++s::l.drop (k+1):=by
 obtain⟨hlt,e⟩:=List.getElem?_eq_some_iff.1 h;rw[← e,←List.drop_eq_getElem_cons hlt,List.take_append_drop]
structure Upto (m:Mp) (d:Drv) (os:List Ord) (stops:List Stp) (k:Nat) (st:St) (vs:List Vis):Prop where
 run:run m d os [] (st0 d) (stops.take k)=.ok (st,vs)
 left:0≤st.left∧st.left≤2000000
 load:-(1000*(k:Int))≤st.load∧st.load≤1000*(k:Int)
 len:vs.length=k
section
variable {m : Mp} {d : Drv} {os : List Ord} {stops : List Stp} {k : Nat} {st : St} {vs : List Vis} {s : Stp}
theorem Upto.start(hd:DrvOk m d):Upto m d os stops 0 (st0 d) []:=by
 have hw:=right_iff.1 hd.win;exact⟨by simp[FleetMath.run],⟨hw.1,by show d.win.fr≤2000000;omega⟩,⟨by simp[st0],by simp[st0]⟩,rfl⟩
theorem Upto.fault{e:Int}(h:Upto m d os stops k st vs)(hs:stops[k]?=some s)(he:step m d os (stops.take k) st s=.error e)(hd:drvE (some m) d=0)(hk:a_V (some m) os=true)(hn:stops.length≤80):
 a_J (some m) d os stops=([],k,e):=by
 have hlt:=(List.getElem?_eq_some_iff.1 hs).1;rw[c_Z hd hk hn];unfold d_W;rw[l_M hs,i_4 h.run (by simpa using he)];simp only[List.length_nil,Nat.zero_add,List.length_take];rw[Nat.min_eq_left (by omega)]
theorem Upto.next{o:Ord}{b v:Int}(h:Upto m d os stops k st vs)(hs:stops[k]?=some s)(ho:OrdOk m o)(h0:find os s.ord=some o)(h1:s∉stops.take k)(h2:s.drop=true→Stp.mk s.ord false∈stops.take k)(h3:a_k o s st.load≤d.room)(h4:served m st.at_ st.left (a_e o s) d.win.to=some (b,v)):
 Upto m d os stops (k+1) ⟨(a_e o s).place,v,a_k o s st.load⟩ (vs++[⟨s,st.left+time m st.at_ (a_e o s).place,b,v,a_k o s st.load⟩]):=by
 have hst:=g_a h0 h1 h2 h3 h4;obtain⟨q1,q2,_⟩:=served_some.1 h4;have hw:=right_iff.1 (has_iff.1 (c_c q1).1).1;have hb:=c_c q1;have hsz:=ho.size
 have hsv:0≤(a_e o s).serv∧(a_e o s).serv≤1000000:=by
  unfold a_e;split
  ·exact ho.dropS
  ·exact ho.pickS
 refine⟨?_,⟨by simp only;omega,by simp only;omega⟩,?_,by simp[h.len]⟩
 ·rw[List.take_add_one,hs,c_Y,h.run]
  simp only[Option.toList,List.nil_append];rw[b_c,hst];simp[FleetMath.run]
 ·have:=h.load
  simp only[a_k];split<;>constructor<;>omega
theorem Upto.done(h:Upto m d os stops stops.length st vs)(hd:drvE (some m) d=0)(hk:a_V (some m) os=true)(hn:stops.length≤80):
 a_J (some m) d os stops=if 0<st.load then([],stops.length,18)else(vs,0,0):=by
 rw[c_Z hd hk hn];unfold d_W;have:=h.run;rw[List.take_length]at this;rw[this]
end
end FleetMath
end Go.Proofs.YtkpnmpjnpcjohaaGreat
