/-
  The sum of points is associative: the identities, and the outer sums. Plain facts.
  The sum of points is associative. Plain facts.
  The sum of points is associative: the cases laid together. Plain facts.
  How many times a point; n times the base is the far point. Plain facts.
  What Mul answers is so many times the point as its bytes say; the base's times. Plain facts.
-/
import Derived.Test.YtnabmdpgibnkaabDoorZEcP
import Derived.Test.YtnabmdpgibnkaabDoorZEcJToEcS
import Derived.Test.YtnabmdpgibnkaabDoorZCvMuToCrN
namespace Go.Proofs.YtnabmdpgibnkaabDoor

theorem id_F (x1 x2 x3 a b y2 y1 y3 xs ys xt yt : Int) (h1 : y1 = y2 + a * (x1 - x2)) (h3 : y3 = y2 + b * (x3 - x2))
    (hxs : xs = a * a - x1 - x2) (hys : ys = a * (x2 - xs) - y2) (hxt : xt = b * b - x2 - x3) (hyt : yt = b * (x2 - xt) - y2) :
    (ys - y3) * (ys - y3) * ((x1 - xt) * (x1 - xt)) - (y1 - yt) * (y1 - yt) * ((xs - x3) * (xs - x3)) - ((xs + x3) - (x1 + xt)) * ((xs - x3) * (xs - x3)) * ((x1 - xt) * (x1 - xt))
      = (-a^4*x1 + a^4*x2 - 2*a^3*b^3 + 4*a^3*b*x2 + 2*a^3*b*x3 - 2*a^3*y2 - 3*a^2*b^2*x1 - a^2*b^2*x2 - 2*a^2*b^2*x3 + 3*a^2*x1^2 + 3*a^2*x1*x2 + 6*a^2*x1*x3 - a^2*x2^2 + 2*a^2*x2*x3 + 2*a^2*x3^2 + 3*a^2 + 2*a*b^3*x1 + 4*a*b^3*x2 - 2*a*b^2*y2 - 6*a*b*x1*x2 - 6*a*b*x2^2 - 6*a*b*x2*x3 + 4*a*x1*y2 + 4*a*x2*y2 + 4*a*x3*y2 - 2*b^4*x2 + 2*b^4*x3 + 4*b^3*y2 + 3*b^2*x1^2 + 5*b^2*x1*x2 + 4*b^2*x1*x3 + b^2*x2^2 + 2*b^2*x2*x3 - 6*b^2*x3^2 + 9*b^2 - 4*b*x2*y2 - 8*b*x3*y2 - 2*x1^3 - 6*x1^2*x2 - 6*x1^2*x3 - 4*x1*x2^2 - 10*x1*x2*x3 - 4*x1*x3^2 - 6*x1 + 2*x2^3 + 4*x2^2*x3 + 4*x2*x3^2 - 12*x2 + 4*x3^3 - 18*x3) * (a * (2 * y2 + a * (x1 - x2)) - (x1 * x1 + x1 * x2 + x2 * x2 - 3)) + (2*a^3*b^3 - 4*a^3*b*x2 - 2*a^3*b*x3 + 3*a^2*b^2*x2 + 3*a^2*b^2*x3 + 2*a^2*b*y2 - 3*a^2*x2^2 - 9*a^2*x2*x3 - 3*a^2*x3^2 - 3*a^2 - 2*a*b^3*x1 - 4*a*b^3*x2 - 4*a*b^2*y2 + 6*a*b*x1*x2 + 6*a*b*x2^2 + 6*a*b*x2*x3 + 4*a*x2*y2 + 8*a*x3*y2 - b^4*x2 + b^4*x3 + 2*b^3*y2 - 6*b^2*x1*x3 + 3*b^2*x2^2 - 3*b^2*x2*x3 - 3*b^2*x3^2 - 9*b^2 - 4*b*x1*y2 - 4*b*x2*y2 - 4*b*x3*y2 + 6*x1*x2*x3 + 6*x1*x3^2 + 6*x1 - 2*x2^3 + 6*x2*x3^2 + 12*x2 + 2*x3^3 + 18*x3) * (b * (2 * y2 + b * (x3 - x2)) - (x3 * x3 + x3 * x2 + x2 * x2 - 3)) := by
  subst h1 h3 hys hyt hxs hxt
  grind

theorem id_G (x1 x2 x3 a b y2 y1 y3 xs ys xt yt : Int) (h1 : y1 = y2 + a * (x1 - x2)) (h3 : y3 = y2 + b * (x3 - x2))
    (hxs : xs = a * a - x1 - x2) (hys : ys = a * (x2 - xs) - y2) (hxt : xt = b * b - x2 - x3) (hyt : yt = b * (x2 - xt) - y2) :
    (x1 - xt) * (ys - y3) * (x3 * ((xs - x3) * (xs - x3)) - ((ys - y3) * (ys - y3) - (xs + x3) * ((xs - x3) * (xs - x3)))) - (xs - x3) * (y1 - yt) * (x1 * ((xs - x3) * (xs - x3)) - ((ys - y3) * (ys - y3) - (xs + x3) * ((xs - x3) * (xs - x3)))) - (xs - x3) * ((xs - x3) * (xs - x3)) * (x1 - xt) * (y3 - y1)
      = (-2*a^5*b^2 + 2*a^5*x1 + a^5*x2 + 3*a^5*x3 - 3*a^4*b*x2 + 3*a^4*b*x3 + 4*a^4*y2 + 4*a^3*b^2*x1 + 5*a^3*b^2*x2 + 3*a^3*b^2*x3 - 4*a^3*x1^2 - 9*a^3*x1*x2 - 7*a^3*x1*x3 - 2*a^3*x2^2 - 8*a^3*x2*x3 - 6*a^3 + a^2*b^3*x2 - a^2*b^3*x3 - 2*a^2*b^2*y2 + a^2*b*x1*x2 - a^2*b*x1*x3 + 4*a^2*b*x2^2 - 6*a^2*b*x2*x3 + 2*a^2*b*x3^2 - 2*a^2*x1*y2 - 6*a^2*x2*y2 + 2*a^2*x3*y2 + 2*a*b^4*x2 - 2*a*b^4*x3 - 4*a*b^3*y2 - 2*a*b^2*x1^2 - 5*a*b^2*x1*x2 - 3*a*b^2*x1*x3 - 2*a*b^2*x2^2 - 6*a*b^2*x2*x3 + 6*a*b^2*x3^2 - 6*a*b^2 + 12*a*b*x3*y2 + 2*a*x1^3 + 8*a*x1^2*x2 + 4*a*x1^2*x3 + 8*a*x1*x2^2 + 10*a*x1*x2*x3 + 6*a*x1 - 2*a*x2^3 - 2*a*x2^2*x3 - 6*a*x2*x3^2 + 18*a*x2 - 4*a*x3^3 + 12*a*x3 + 4*a*y2^2 - b^3*x1*x2 + b^3*x1*x3 - 2*b^3*x2^2 + 2*b^3*x2*x3 + 2*b^2*x1*y2 + 4*b^2*x2*y2 + 2*b*x1^2*x2 - 2*b*x1^2*x3 + 4*b*x1*x2^2 - 4*b*x1*x3^2 + 2*b*x2^2*x3 - 2*b*x2*x3^2 + 6*b*x2 - 6*b*x3 - 2*x1^2*y2 - 4*x1*x2*y2 - 4*x1*x3*y2 - 2*x2*x3*y2 - 6*y2) * (a * (2 * y2 + a * (x1 - x2)) - (x1 * x1 + x1 * x2 + x2 * x2 - 3)) + (2*a^5*b^2 - 3*a^5*x2 - 3*a^5*x3 + 3*a^4*b*x2 - 3*a^4*b*x3 - 2*a^3*b^2*x1 - 5*a^3*b^2*x2 - 5*a^3*b^2*x3 - 4*a^3*b*y2 + 3*a^3*x1*x2 + 3*a^3*x1*x3 + 8*a^3*x2^2 + 14*a^3*x2*x3 + 2*a^3*x3^2 + 6*a^3 - a^2*b^3*x2 + a^2*b^3*x3 + 6*a^2*b^2*y2 - 3*a^2*b*x1*x2 + 3*a^2*b*x1*x3 - 2*a^2*b*x2^2 + 4*a^2*b*x2*x3 - 2*a^2*b*x3^2 - 8*a^2*x2*y2 - 10*a^2*x3*y2 + a*b^2*x1*x2 + 5*a*b^2*x1*x3 - 4*a*b^2*x2^2 + 10*a*b^2*x2*x3 + 6*a*b^2 + 4*a*b*x1*y2 + 8*a*b*x2*y2 - 2*a*x1*x2^2 - 8*a*x1*x2*x3 - 2*a*x1*x3^2 - 6*a*x1 + 2*a*x2^3 - 4*a*x2^2*x3 - 4*a*x2*x3^2 - 18*a*x2 - 12*a*x3 + b^3*x1*x2 - b^3*x1*x3 + 2*b^3*x2*x3 - 2*b^3*x3^2 - 2*b^2*x1*y2 + 2*b^2*x2*y2 - 6*b^2*x3*y2 - 2*b*x1*x2^2 - 2*b*x1*x2*x3 + 4*b*x1*x3^2 - 4*b*x2^2*x3 + 2*b*x2*x3^2 - 6*b*x2 + 2*b*x3^3 + 6*b*x3 - 4*b*y2^2 + 2*x1*x2*y2 + 4*x1*x3*y2 + 4*x2*x3*y2 + 2*x3^2*y2 + 6*y2) * (b * (2 * y2 + b * (x3 - x2)) - (x3 * x3 + x3 * x2 + x2 * x2 - 3)) := by
  subst h1 h3 hys hyt hxs hxt
  grind

def kH_0_0 (x1 x2 a b y2 : Int) : Int := -6*a^7 + 30*a^6*b - 6*a^5*b^2 - 84*a^5*x1 + 36*a^5*x2 - 42*a^4*b^3 - 12*a^4*b*x1 - 36*a^4*b*x2 - 182*a^4*y2 + 60*a^3*b^2*x1 + 12*a^3*b^2*x2 + 246*a^3*b*y2 + 90*a^3*x1^2 + 156*a^3*x1*x2
def kH_0_1 (x1 x2 a b y2 : Int) : Int := -21*a^3*x2^2 - 27*a^3 - 12*a^2*b^3*x1 + 84*a^2*b^3*x2 - 210*a^2*b^2*y2 - 18*a^2*b*x1^2 - 60*a^2*b*x1*x2 - 75*a^2*b*x2^2 + 27*a^2*b - 10*a^2*x1*y2 + 226*a^2*x2*y2 + 18*a*b^3*y2 - 54*a*b^2*x1^2 - 108*a*b^2*x1*x2
def kH_0_2 (x1 x2 a b y2 : Int) : Int := -27*a*b^2*x2^2 + 27*a*b^2 + 60*a*b*x1*y2 + 12*a*b*x2*y2 - 48*a*y2^2 + 54*b^3*x1^2 + 108*b^3*x1*x2 + 27*b^3*x2^2 - 27*b^3 - 18*b^2*x1*y2 + 18*b^2*x2*y2
def kH_1_0 (x1 x2 a b y2 : Int) : Int := -27*a^9 + 27*a^8*b + 27*a^7*b^2 + 9*a^7*x1 + 126*a^7*x2 - 27*a^6*b^3 + 63*a^6*b*x1 - 198*a^6*b*x2 - 174*a^6*y2 - 9*a^5*b^2*x1 - 126*a^5*b^2*x2 + 312*a^5*b*y2 + 63*a^5*x1^2 + 36*a^5*x1*x2
def kH_1_1 (x1 x2 a b y2 : Int) : Int := -180*a^5 - 63*a^4*b^3*x1 + 198*a^4*b^3*x2 + 114*a^4*b^2*y2 - 207*a^4*b*x1^2 + 36*a^4*b*x1*x2 + 252*a^4*b + 12*a^4*x1*y2 + 180*a^4*x2*y2 - 300*a^3*b^3*y2 - 99*a^3*b^2*x1^2 + 36*a^3*b^2*x1*x2 + 144*a^3*b^2 - 540*a^3*b*x1*y2
def kH_1_2 (x1 x2 a b y2 : Int) : Int := -24*a^3*b*x2*y2 - 45*a^3*x1^3 - 162*a^3*x1^2*x2 - 108*a^3*x1 + 72*a^3*x2 - 268*a^3*y2^2 + 171*a^2*b^3*x1^2 + 36*a^2*b^3*x1*x2 - 288*a^2*b^3 + 228*a^2*b^2*x1*y2 - 228*a^2*b^2*x2*y2 + 117*a^2*b*x1^3 + 162*a^2*b*x1^2*x2 - 108*a^2*b*x1
def kH_1_3 (x1 x2 a b y2 : Int) : Int := 72*a^2*b*x2 + 60*a^2*b*y2^2 + 162*a^2*x1^2*y2 - 84*a^2*x1*x2*y2 - 240*a^2*y2 + 36*a*b^3*x1*y2 + 288*a*b^3*x2*y2 + 81*a*b^2*x1^3 + 162*a*b^2*x1^2*x2 + 36*a*b*x1^2*y2 + 360*a*b*x1*x2*y2 - 72*a*b*y2 + 84*a*x1*y2^2 + 240*a*x2*y2^2
def kH_1_4 (x1 x2 a b y2 : Int) : Int := -81*b^3*x1^3 - 162*b^3*x1^2*x2 - 72*b^3*y2^2 - 54*b^2*x1^2*y2 - 108*b^2*x1*x2*y2 - 108*b*x1*y2^2 - 72*y2^3 + 0 * (x1 + x2 + a + b + y2)
def kH_2_0 (x1 x2 a b y2 : Int) : Int := 112*a^2*y2^2 + 0 * (x1 + x2 + a + b + y2)

set_option maxHeartbeats 4000000 in
set_option maxRecDepth 4000 in
theorem id_H (x1 x2 a b y2 y1 xs ys xt yt : Int) (h1 : y1 = y2 + a * (x1 - x2))
    (hxs : xs = a * a - x1 - x2) (hys : ys = a * (x2 - xs) - y2) (hxt : xt = b * b - x2 - xs) (hyt : yt = b * (x2 - xt) - y2) :
    9 * ((3 * xs * xs - 3) * (3 * xs * xs - 3) * ((x1 - xt) * (x1 - xt)) - (y1 - yt) * (y1 - yt) * ((2 * ys) * (2 * ys)) - ((xs + xs) - (x1 + xt)) * ((2 * ys) * (2 * ys)) * ((x1 - xt) * (x1 - xt)))
      = (kH_0_0 x1 x2 a b y2 + kH_0_1 x1 x2 a b y2 + kH_0_2 x1 x2 a b y2) * ((x2 - x1) * (ys - y2 - b * (xs - x2)) - (a + b) * (a * (2 * y2 + a * (x1 - x2)) - (x1 * x1 + x1 * x2 + x2 * x2 - 3))) + (kH_1_0 x1 x2 a b y2 + kH_1_1 x1 x2 a b y2 + kH_1_2 x1 x2 a b y2 + kH_1_3 x1 x2 a b y2 + kH_1_4 x1 x2 a b y2) * (-(ys - y2 - b * (xs - x2))) + (kH_2_0 x1 x2 a b y2) * (a * (2 * y2 + a * (x1 - x2)) - (x1 * x1 + x1 * x2 + x2 * x2 - 3)) := by
  unfold kH_0_0 kH_0_1 kH_0_2 kH_1_0 kH_1_1 kH_1_2 kH_1_3 kH_1_4 kH_2_0
  subst h1 hys hyt hxs hxt
  grind

def kK_0_0 (x1 x2 a b y2 : Int) : Int := 45*a^9 - 81*a^8*b + 60*a^7*b^2 + 324*a^7*x1 - 132*a^7*x2 - 324*a^6*b*x1 + 120*a^6*b*x2 - 186*a^6*y2 + 300*a^5*b^2*x1 - 96*a^5*b^2*x2 + 10*a^5*b*y2 - 1242*a^5*x1^2 - 1248*a^5*x1*x2 + 33*a^5*x2^2
def kK_0_1 (x1 x2 a b y2 : Int) : Int := 435*a^5 + 144*a^4*b^2*y2 + 1458*a^4*b*x1^2 + 1284*a^4*b*x1*x2 + 165*a^4*b*x2^2 - 297*a^4*b - 798*a^4*x1*y2 - 810*a^4*x2*y2 - 684*a^3*b^2*x1^2 - 960*a^3*b^2*x1*x2 - 102*a^3*b^2*x2^2 + 54*a^3*b^2 + 884*a^3*b*x1*y2 + 448*a^3*b*x2*y2
def kK_0_2 (x1 x2 a b y2 : Int) : Int := 1332*a^3*x1^3 + 2892*a^3*x1^2*x2 + 1560*a^3*x1*x2^2 - 624*a^3*x1 + 156*a^3*x2^3 - 924*a^3*x2 - 1072*a^3*y2^2 - 36*a^2*b^2*x1*y2 - 288*a^2*b^2*x2*y2 - 1620*a^2*b*x1^3 - 3024*a^2*b*x1^2*x2 - 1188*a^2*b*x1*x2^2 + 540*a^2*b*x1 - 162*a^2*b*x2^3
def kK_0_3 (x1 x2 a b y2 : Int) : Int := 594*a^2*b*x2 + 540*a^2*b*y2^2 + 1278*a^2*x1^2*y2 - 144*a^2*x1*x2*y2 + 486*a^2*x2^2*y2 + 54*a^2*y2 + 324*a*b^2*x1^3 + 864*a*b^2*x1^2*x2 + 486*a*b^2*x1*x2^2 - 54*a*b^2*x1 + 108*a*b^2*x2^3 - 108*a*b^2*x2 - 36*a*b^2*y2^2 - 702*a*b*x1^2*y2
def kK_0_4 (x1 x2 a b y2 : Int) : Int := -720*a*b*x1*x2*y2 - 252*a*b*x2^2*y2 - 108*a*b*y2 - 459*a*x1^4 - 1512*a*x1^3*x2 - 1593*a*x1^2*x2^2 + 189*a*x1^2 - 864*a*x1*x2^3 + 432*a*x1*x2 + 24*a*x1*y2^2 - 189*a*x2^4 + 270*a*x2^2 - 456*a*x2*y2^2 - 81*a
def kK_0_5 (x1 x2 a b y2 : Int) : Int := -108*b^2*x1^2*y2 - 216*b^2*x1*x2*y2 - 54*b^2*x2^2*y2 + 54*b^2*y2 + 567*b*x1^4 + 1620*b*x1^3*x2 + 1215*b*x1^2*x2^2 - 243*b*x1^2 + 486*b*x1*x2^3 - 486*b*x1*x2 + 144*b*x1*y2^2 + 81*b*x2^4 - 162*b*x2^2 + 72*b*x2*y2^2 + 0 * (x1 + x2 + a + b + y2)
def kK_0_6 (x1 x2 a b y2 : Int) : Int := 81*b - 486*x1^3*y2 + 594*x1^2*x2*y2 + 432*x1*x2^2*y2 + 108*x1*y2 + 108*x2^3*y2 - 108*x2*y2 + 0 * (x1 + x2 + a + b + y2)
def kK_1_0 (x1 x2 a b y2 : Int) : Int := 9*a^11 + 9*a^10*b - 18*a^9*b^2 + 45*a^9*x1 - 126*a^9*x2 - 351*a^8*b*x1 + 216*a^8*b*x2 + 324*a^8*y2 + 288*a^7*b^2*x1 - 72*a^7*b^2*x2 - 684*a^7*b*y2 - 270*a^7*x1^2 - 108*a^7*x1*x2 + 540*a^7
def kK_1_1 (x1 x2 a b y2 : Int) : Int := 390*a^6*b^2*y2 + 1242*a^6*b*x1^2 + 540*a^6*b*x1*x2 - 972*a^6*b + 1074*a^6*x1*y2 - 1608*a^6*x2*y2 - 684*a^5*b^2*x1^2 - 792*a^5*b^2*x1*x2 + 504*a^5*b^2 + 132*a^5*b*x1*y2 + 1512*a^5*b*x2*y2 + 450*a^5*x1^3 + 1080*a^5*x1^2*x2 - 108*a^5*x1
def kK_1_2 (x1 x2 a b y2 : Int) : Int := -936*a^5*x2 + 1452*a^5*y2^2 + 558*a^4*b^2*x1*y2 - 924*a^4*b^2*x2*y2 - 1710*a^4*b*x1^3 - 2700*a^4*b*x1^2*x2 + 972*a^4*b*x1 + 1008*a^4*b*x2 - 868*a^4*b*y2^2 - 1206*a^4*x1^2*y2 - 1548*a^4*x1*x2*y2 + 2616*a^4*y2 + 576*a^3*b^2*x1^3 + 1512*a^3*b^2*x1^2*x2
def kK_1_3 (x1 x2 a b y2 : Int) : Int := 432*a^3*b^2*x1 - 576*a^3*b^2*x2 + 720*a^3*b^2*y2^2 + 684*a^3*b*x1^2*y2 - 624*a^3*b*x1*x2*y2 - 1248*a^3*b*y2 - 315*a^3*x1^4 - 1332*a^3*x1^3*x2 - 1404*a^3*x1^2 + 288*a^3*x1*x2 + 1516*a^3*x1*y2^2 - 2452*a^3*x2*y2^2 + 576*a^3 - 918*a^2*b^2*x1^2*y2
def kK_1_4 (x1 x2 a b y2 : Int) : Int := -216*a^2*b^2*x1*x2*y2 + 864*a^2*b^2*y2 + 1053*a^2*b*x1^4 + 2916*a^2*b*x1^3*x2 + 972*a^2*b*x1^2 - 1296*a^2*b*x1*x2 + 36*a^2*b*x1*y2^2 + 756*a^2*b*x2*y2^2 - 810*a^2*x1^3*y2 + 3456*a^2*x1^2*x2*y2 + 216*a^2*x1*y2 - 1296*a^2*x2*y2 + 528*a^2*y2^3 - 162*a*b^2*x1^4
def kK_1_5 (x1 x2 a b y2 : Int) : Int := -648*a*b^2*x1^3*x2 - 648*a*b^2*x1^2 - 432*a*b^2*x2*y2^2 - 324*a*b*x1^3*y2 - 216*a*b*x1^2*x2*y2 + 864*a*b*x1*y2 + 81*a*x1^5 + 486*a*x1^4*x2 + 972*a*x1^3 + 648*a*x1^2*x2 - 1080*a*x1^2*y2^2 + 396*a*x1*x2*y2^2 + 792*a*y2^2 + 162*b^2*x1^3*y2
def kK_1_6 (x1 x2 a b y2 : Int) : Int := 324*b^2*x1^2*x2*y2 + 72*b^2*y2^3 - 243*b*x1^5 - 972*b*x1^4*x2 - 972*b*x1^3 - 216*b*x1^2*y2^2 - 108*b*x1*x2*y2^2 + 810*x1^4*y2 - 972*x1^3*x2*y2 - 1296*x1^2*y2 - 72*x1*y2^3 - 144*x2*y2^3 + 0 * (x1 + x2 + a + b + y2)
def kK_2_0 (x1 x2 a b y2 : Int) : Int := -1128*a^7*y2 - 576*a^5*x1*y2 + 1176*a^5*x2*y2 - 2608*a^4*y2^2 + 3240*a^3*x1^2*y2 + 816*a^3*x1*x2*y2 - 132*a^3*x2^2*y2 - 492*a^3*y2 - 252*a^2*x1*y2^2 + 468*a^2*x2*y2^2 - 1728*a*x1^3*y2 - 1512*a*x1^2*x2*y2 - 648*a*x1*x2^2*y2 + 216*a*x1*y2 + 0 * (x1 + x2 + a + b + y2)
def kK_2_1 (x1 x2 a b y2 : Int) : Int := -108*a*x2^3*y2 + 108*a*x2*y2 - 456*a*y2^3 + 972*x1^2*y2^2 + 540*x1*x2*y2^2 + 108*x2^2*y2^2 - 108*y2^2 + 0 * (x1 + x2 + a + b + y2)

set_option maxHeartbeats 4000000 in
set_option maxRecDepth 4000 in
theorem id_K (x1 x2 a b y2 y1 xs ys xt yt : Int) (h1 : y1 = y2 + a * (x1 - x2))
    (hxs : xs = a * a - x1 - x2) (hys : ys = a * (x2 - xs) - y2) (hxt : xt = b * b - x2 - xs) (hyt : yt = b * (x2 - xt) - y2) :
    9 * ((x1 - xt) * (3 * xs * xs - 3) * (xs * ((2 * ys) * (2 * ys)) - ((3 * xs * xs - 3) * (3 * xs * xs - 3) - (xs + xs) * ((2 * ys) * (2 * ys)))) - (2 * ys) * (y1 - yt) * (x1 * ((2 * ys) * (2 * ys)) - ((3 * xs * xs - 3) * (3 * xs * xs - 3) - (xs + xs) * ((2 * ys) * (2 * ys)))) - (2 * ys) * ((2 * ys) * (2 * ys)) * (x1 - xt) * (ys - y1))
      = (kK_0_0 x1 x2 a b y2 + kK_0_1 x1 x2 a b y2 + kK_0_2 x1 x2 a b y2 + kK_0_3 x1 x2 a b y2 + kK_0_4 x1 x2 a b y2 + kK_0_5 x1 x2 a b y2 + kK_0_6 x1 x2 a b y2) * ((x2 - x1) * (ys - y2 - b * (xs - x2)) - (a + b) * (a * (2 * y2 + a * (x1 - x2)) - (x1 * x1 + x1 * x2 + x2 * x2 - 3))) + (kK_1_0 x1 x2 a b y2 + kK_1_1 x1 x2 a b y2 + kK_1_2 x1 x2 a b y2 + kK_1_3 x1 x2 a b y2 + kK_1_4 x1 x2 a b y2 + kK_1_5 x1 x2 a b y2 + kK_1_6 x1 x2 a b y2) * (-(ys - y2 - b * (xs - x2))) + (kK_2_0 x1 x2 a b y2 + kK_2_1 x1 x2 a b y2) * (a * (2 * y2 + a * (x1 - x2)) - (x1 * x1 + x1 * x2 + x2 * x2 - 3)) := by
  unfold kK_0_0 kK_0_1 kK_0_2 kK_0_3 kK_0_4 kK_0_5 kK_0_6 kK_1_0 kK_1_1 kK_1_2 kK_1_3 kK_1_4 kK_1_5 kK_1_6 kK_2_0 kK_2_1
  subst h1 hys hyt hxs hxt
  grind

/-- Two outer sums are alike where these two are 0. -/
theorem outer {c d u c' e v s s' xA yA xB yB : Int} (hc : Cg (c * d) u) (hc' : Cg (c' * e) v) (hd : ¬ D d) (he : ¬ D e)
    (hF : D (u * u * (e * e) - v * v * (d * d) - (s - s') * (d * d) * (e * e)))
    (hG : D (e * u * (xA * (d * d) - (u * u - s * (d * d))) - d * v * (xB * (d * d) - (u * u - s * (d * d))) - d * (d * d) * e * (yA - yB))) :
    Cg (c * c - s) (c' * c' - s') ∧ Cg (c * (xA - (c * c - s)) - yA) (c' * (xB - (c' * c' - s')) - yB) := by
  have hX : Cg (c * c - s) (c' * c' - s') := by
    have h1 : Cg (c * d * (c * d) * (e * e) - c' * e * (c' * e) * (d * d) - (s - s') * (d * d) * (e * e)) (u * u * (e * e) - v * v * (d * d) - (s - s') * (d * d) * (e * e)) :=
      (((hc.mul hc).mul (Cg.refl _)).sub ((hc'.mul hc').mul (Cg.refl _))).sub (Cg.refl _)
    have h2 := h1.d hF
    have e1 : c * d * (c * d) * (e * e) - c' * e * (c' * e) * (d * d) - (s - s') * (d * d) * (e * e) = (c * c - s - (c' * c' - s')) * (d * d * (e * e)) := by grind
    rw [e1] at h2
    exact h2.prod.elim id (fun h => absurd h (nd_mul (nd_mul hd hd) (nd_mul he he)))
  refine ⟨hX, ?_⟩
  have hY : Cg (c * (xA - (c * c - s)) - yA) (c' * (xB - (c * c - s)) - yB) := by
    have h1 : Cg (e * (c * d) * (xA * (d * d) - (c * d * (c * d) - s * (d * d))) - d * (c' * e) * (xB * (d * d) - (c * d * (c * d) - s * (d * d))) - d * (d * d) * e * (yA - yB))
        (e * u * (xA * (d * d) - (u * u - s * (d * d))) - d * v * (xB * (d * d) - (u * u - s * (d * d))) - d * (d * d) * e * (yA - yB)) :=
      ((((Cg.refl e).mul hc).mul ((Cg.refl _).sub ((hc.mul hc).sub (Cg.refl _)))).sub (((Cg.refl d).mul hc').mul ((Cg.refl _).sub ((hc.mul hc).sub (Cg.refl _))))).sub (Cg.refl _)
    have h2 := h1.d hG
    have e1 : e * (c * d) * (xA * (d * d) - (c * d * (c * d) - s * (d * d))) - d * (c' * e) * (xB * (d * d) - (c * d * (c * d) - s * (d * d))) - d * (d * d) * e * (yA - yB)
        = (c * (xA - (c * c - s)) - yA - (c' * (xB - (c * c - s)) - yB)) * (d * (d * d) * e) := by grind
    rw [e1] at h2
    exact h2.prod.elim id (fun h => absurd h (nd_mul (nd_mul hd (nd_mul hd hd)) he))
  exact hY.trans (((Cg.refl c').mul ((Cg.refl xB).sub hX)).sub (Cg.refl yB))

end Go.Proofs.YtnabmdpgibnkaabDoor

namespace Go.Proofs.YtnabmdpgibnkaabDoor

theorem d_l3 {a b c k l m x : Int} (h : x = k * a + l * b + m * c) (ha : D a) (hb : D b) (hc : D c) : D x := by
  rw [h]; exact ((ha.mul_l k).add (hb.mul_l l)).add (hc.mul_l m)
theorem d_l4 {a b c d k l m n x : Int} (h : x = k * a + l * b + m * c + n * d) (ha : D a) (hb : D b) (hc : D c) (hd : D d) : D x := by
  rw [h]; exact (((ha.mul_l k).add (hb.mul_l l)).add (hc.mul_l m)).add (hd.mul_l n)

/-- The rise of the line through two points, chord or tangent. -/
def Sl (x1 y1 x2 y2 a : Int) : Prop := D (y1 - y2 - a * (x1 - x2)) ∧ D (a * (y1 + y2) - (x1 * x1 + x1 * x2 + x2 * x2 - 3))
/-- Two points that are across from one another. -/
def Op (x1 y1 x2 y2 : Int) : Prop := x1 = x2 ∧ D (y1 + y2)

theorem th_of {x1 y1 x2 r h a : Int} (hh : ¬ D h) (ha : D (a * h - r)) :
    D ((th x1 y1 x2 r h).1 - (a * a - x1 - x2)) ∧ D ((th x1 y1 x2 r h).2 - (a * (x1 - (th x1 y1 x2 r h).1) - y1)) := by
  have h1 : Cg (h * iv h) 1 := iv_ok hh
  have h2 : Cg (r * iv h) a := by
    have h3 : Cg (a * h) r := ha
    have h4 : Cg (a * h * iv h) (r * iv h) := h3.mul (Cg.refl _)
    have h5 : Cg (a * (h * iv h)) (a * 1) := (Cg.refl a).mul h1
    rw [Int.mul_one, ← Int.mul_assoc] at h5
    exact h4.symm.trans h5
  constructor
  · exact (Cg.md _).trans (((h2.mul h2).sub (Cg.refl _)).sub (Cg.refl _))
  · exact (Cg.md _).trans ((h2.mul (Cg.refl _)).sub (Cg.refl _))

theorem same_y {x y1 y2 : Int} (hp : Ok (some (x, y1))) (hq : Ok (some (x, y2))) (hn : ¬ Op x y1 x y2) : y1 = y2 := by
  refine Classical.byContradiction fun hne => hn ⟨rfl, ?_⟩
  have h1 : D (y2 - -y1) := across hp.2.2 hq.2.2 hp.2.1 hq.2.1 hne
  have e : y2 - -y1 = y1 + y2 := by omega
  rw [e] at h1
  exact h1

theorem sl_ex {x1 y1 x2 y2 : Int} (hp : Ok (some (x1, y1))) (hq : Ok (some (x2, y2))) (hn : ¬ Op x1 y1 x2 y2) : ∃ a, Sl x1 y1 x2 y2 a := by
  by_cases ex : x1 = x2
  · subst ex
    have ey := same_y hp hq hn
    subst ey
    have h1 : D (2 * y1 * iv (2 * y1) - 1) := iv_ok (dbl_nd hp.2.2)
    refine ⟨(3 * x1 * x1 - 3) * iv (2 * y1), ?_, ?_⟩
    · exact ⟨0, by rw [Int.sub_self, Int.sub_self, Int.mul_zero, Int.mul_zero]; rfl⟩
    · generalize iv (2 * y1) = i at *
      exact d_one (c := 3 * x1 * x1 - 3) (by clear hp hq hn h1; grind) h1
  · have hh := cg_ne hp.1 hq.1 ex
    have h1 : D ((x2 - x1) * iv (x2 - x1) - 1) := iv_ok hh
    have A : D (y1 - y2 - (y2 - y1) * iv (x2 - x1) * (x1 - x2)) := by
      generalize iv (x2 - x1) = i at *
      exact d_one (c := (y2 - y1)) (by clear hp hq hn h1 hh ex; grind) h1
    refine ⟨(y2 - y1) * iv (x2 - x1), A, ?_⟩
    generalize (y2 - y1) * iv (x2 - x1) = a at *
    have hc1 := hp.2.2
    have hc2 := hq.2.2
    have h2 : D ((a * (y1 + y2) - (x1 * x1 + x1 * x2 + x2 * x2 - 3)) * (x2 - x1)) :=
      d_l3 (k := (y1 + y2)) (l := -1) (m := 1) (by unfold cR; generalize BB = b; clear hp hq hn h1 hh ex A hc1 hc2; grind) A hc1 hc2
    exact h2.prod.elim id (fun h => absurd h hh)

theorem op_none {x1 y1 x2 y2 : Int} (hp : Ok (some (x1, y1))) (h : Op x1 y1 x2 y2) : padd (some (x1, y1)) (some (x2, y2)) = none := by
  have h1 : y1 ≠ y2 := by
    intro e
    have h2 := h.2
    rw [← e] at h2
    have e2 : y1 + y1 = 2 * y1 := by omega
    rw [e2] at h2
    exact dbl_nd hp.2.2 h2
  unfold padd
  dsimp only
  rw [if_pos h.1, if_neg h1]

theorem sl_sum {x1 y1 x2 y2 a : Int} (hp : Ok (some (x1, y1))) (hq : Ok (some (x2, y2))) (hn : ¬ Op x1 y1 x2 y2) (ha : Sl x1 y1 x2 y2 a) :
    ∃ x3 y3, padd (some (x1, y1)) (some (x2, y2)) = some (x3, y3) ∧ Ok (some (x3, y3)) ∧ D (x3 - (a * a - x1 - x2)) ∧ D (y3 - (a * (x1 - x3) - y1)) := by
  have hk := padd_ok hp hq
  by_cases ex : x1 = x2
  · subst ex
    have ey := same_y hp hq hn
    subst ey
    have e : padd (some (x1, y1)) (some (x1, y1)) = some (th x1 y1 x1 (3 * x1 * x1 - 3) (2 * y1)) := by
      unfold padd
      dsimp only
      rw [if_pos rfl, if_pos rfl]
    rw [e] at hk
    have h1 : D (a * (2 * y1) - (3 * x1 * x1 - 3)) := d_one (c := 1) (by clear hp hq hn hk e; grind) ha.2
    have h2 := th_of (x1 := x1) (y1 := y1) (x2 := x1) (dbl_nd hp.2.2) h1
    exact ⟨_, _, e, hk, h2.1, h2.2⟩
  · have e : padd (some (x1, y1)) (some (x2, y2)) = some (th x1 y1 x2 (y2 - y1) (x2 - x1)) := by
      unfold padd
      dsimp only
      rw [if_neg ex]
    rw [e] at hk
    have h1 : D (a * (x2 - x1) - (y2 - y1)) := d_one (c := 1) (by clear hp hq hn hk e; grind) ha.1
    have h2 := th_of (x1 := x1) (y1 := y1) (x2 := x2) (cg_ne hp.1 hq.1 ex) h1
    exact ⟨_, _, e, hk, h2.1, h2.2⟩

/-- Whatever lies where the sum does is the sum. -/
theorem sl_pt {x1 y1 x2 y2 a x y : Int} (hp : Ok (some (x1, y1))) (hq : Ok (some (x2, y2))) (hn : ¬ Op x1 y1 x2 y2) (ha : Sl x1 y1 x2 y2 a)
    (ht : Ok (some (x, y))) (hx : D (x - (a * a - x1 - x2))) (hy : D (y - (a * (x1 - x) - y1))) : padd (some (x1, y1)) (some (x2, y2)) = some (x, y) := by
  obtain ⟨x3, y3, e, hk, h1, h2⟩ := sl_sum hp hq hn ha
  have ex : x3 = x := Cg.eq (show D (x3 - x) from d_lin (c := 1) (d := -1) (by omega) h1 hx) hk.1 ht.1
  subst ex
  have ey : y3 = y := Cg.eq (show D (y3 - y) from d_lin (c := 1) (d := -1) (by omega) h2 hy) hk.2.1 ht.2.1
  subst ey
  exact e

theorem op_symm {x1 y1 x2 y2 : Int} (h : Op x1 y1 x2 y2) : Op x2 y2 x1 y1 := ⟨h.1.symm, by rw [Int.add_comm]; exact h.2⟩
theorem sl_symm {x1 y1 x2 y2 a : Int} (h : Sl x1 y1 x2 y2 a) : Sl x2 y2 x1 y1 a :=
  ⟨d_one (c := -1) (by grind) h.1, d_one (c := 1) (by grind) h.2⟩

theorem padd_far (p : Option (Int × Int)) : padd p none = p := by cases p <;> rfl
theorem far_padd (p : Option (Int × Int)) : padd none p = p := by cases p <;> rfl

theorem padd_comm : ∀ {p q : Option (Int × Int)}, Ok p → Ok q → padd p q = padd q p
  | none, q, _, _ => by rw [padd_far, far_padd]
  | some p, none, _, _ => by rw [padd_far, far_padd]
  | some (x1, y1), some (x2, y2), hp, hq => by
    by_cases hn : Op x1 y1 x2 y2
    · rw [op_none hp hn, op_none hq (op_symm hn)]
    · obtain ⟨a, ha⟩ := sl_ex hp hq hn
      obtain ⟨x3, y3, e, hk, h1, h2⟩ := sl_sum hp hq hn ha
      rw [e]
      refine (sl_pt hq hp (fun h => hn (op_symm h)) (sl_symm ha) hk ?_ ?_).symm
      · exact d_one (c := 1) (by clear hp hq hn hk e; grind) h1
      · exact d_lin (c := 1) (d := -1) (by clear hp hq hn hk e; grind) h2 ha.1

/-- The line goes through the point across from the sum. -/
theorem third {x2 y2 x3 y3 b xs ys : Int} (h : Sl x2 y2 x3 y3 b) (hx : D (xs - (b * b - x2 - x3))) (hy : D (ys - (b * (x2 - xs) - y2))) :
    D (b * (y2 - ys) - (x2 * x2 + x2 * xs + xs * xs - 3)) :=
  d_l4 (k := b) (l := 1) (m := -b) (n := -(xs - x3)) (by clear h hx hy; grind) h.1 h.2 hy hx

/-- The point across from a summand, added to the sum, gives the other. -/
theorem cancel {x2 y2 x3 y3 y' : Int} (hq : Ok (some (x2, y2))) (hr : Ok (some (x3, y3))) (hp : Ok (some (x2, y'))) (ho : D (y' + y2)) :
    padd (some (x2, y')) (padd (some (x2, y2)) (some (x3, y3))) = some (x3, y3) := by
  by_cases hn : Op x2 y2 x3 y3
  · rw [op_none hq hn, padd_far]
    have ey : y' = y3 := Cg.eq (show D (y' - y3) from d_lin (c := 1) (d := -1) (by omega) ho hn.2) hp.2.1 hr.2.1
    rw [ey, hn.1]
  · obtain ⟨b, hb⟩ := sl_ex hq hr hn
    obtain ⟨xs, ys, e, hk, h1, h2⟩ := sl_sum hq hr hn hb
    rw [e]
    have h3 := third hb h1 h2
    refine sl_pt (a := -b) hp hk ?_ ⟨?_, ?_⟩ hr ?_ ?_
    · intro h
      have h4 := h.2
      have h5 := h.1
      subst h5
      refine dbl_nd hq.2.2 (d_l3 (k := 1) (l := 1) (m := -1) ?_ ho h2 h4)
      clear hp hq hr hk e h
      grind
    · exact d_lin (c := 1) (d := -1) (by clear hp hq hr hk e hn; grind) ho h2
    · exact d_lin (c := -b) (d := 1) (by clear hp hq hr hk e hn; grind) ho h3
    · exact d_one (c := 1) (by clear hp hq hr hk e hn; grind) h1
    · exact d_lin (c := 1) (d := -1) (by clear hp hq hr hk e hn; grind) ho hb.1

theorem cc_alg {x1 y1 x2 y2 x3 y3 a b c c' xs ys xt yt : Int} (hP : Sl x1 y1 x2 y2 a) (hQ : Sl x2 y2 x3 y3 b)
    (hxs : D (xs - (a * a - x1 - x2))) (hys : D (ys - (a * (x1 - xs) - y1))) (hxt : D (xt - (b * b - x2 - x3))) (hyt : D (yt - (b * (x2 - xt) - y2)))
    (hc : D (ys - y3 - c * (xs - x3))) (hc' : D (y1 - yt - c' * (x1 - xt))) (hd : ¬ D (xs - x3)) (he : ¬ D (x1 - xt)) :
    Cg (c * c - (xs + x3)) (c' * c' - (x1 + xt)) ∧ Cg (c * (x3 - (c * c - (xs + x3))) - y3) (c' * (x1 - (c' * c' - (x1 + xt))) - y1) := by
  obtain ⟨Y1, E1⟩ : ∃ Y1, Y1 = y2 + a * (x1 - x2) := ⟨_, rfl⟩
  obtain ⟨Y3, E3⟩ : ∃ Y3, Y3 = y2 + b * (x3 - x2) := ⟨_, rfl⟩
  obtain ⟨Xs, EXs⟩ : ∃ Xs, Xs = a * a - x1 - x2 := ⟨_, rfl⟩
  obtain ⟨Ys, EYs⟩ : ∃ Ys, Ys = a * (x2 - Xs) - y2 := ⟨_, rfl⟩
  obtain ⟨Xt, EXt⟩ : ∃ Xt, Xt = b * b - x2 - x3 := ⟨_, rfl⟩
  obtain ⟨Yt, EYt⟩ : ∃ Yt, Yt = b * (x2 - Xt) - y2 := ⟨_, rfl⟩
  have c1 : Cg y1 Y1 := d_one (c := 1) (by rw [E1]; omega) hP.1
  have c3 : Cg y3 Y3 := d_one (c := -1) (by rw [E3]; clear hP hQ hxs hys hxt hyt hc hc' hd he; grind) hQ.1
  have cxs : Cg xs Xs := by rw [EXs]; exact hxs
  have cys : Cg ys Ys := d_l3 (k := 1) (l := -1) (m := -a) (by rw [EYs, EXs]; clear hP hQ hxs hys hxt hyt hc hc' hd he; grind) hys hP.1 hxs
  have cxt : Cg xt Xt := by rw [EXt]; exact hxt
  have cyt : Cg yt Yt := d_lin (c := 1) (d := -b) (by rw [EYt, EXt]; clear hP hQ hxs hys hxt hyt hc hc' hd he; grind) hyt hxt
  have r1 : D (a * (2 * y2 + a * (x1 - x2)) - (x1 * x1 + x1 * x2 + x2 * x2 - 3)) :=
    d_lin (c := 1) (d := -a) (by clear hP hQ hxs hys hxt hyt hc hc' hd he; grind) hP.2 hP.1
  have r2 : D (b * (2 * y2 + b * (x3 - x2)) - (x3 * x3 + x3 * x2 + x2 * x2 - 3)) :=
    d_lin (c := 1) (d := b) (by clear hP hQ hxs hys hxt hyt hc hc' hd he; grind) hQ.2 hQ.1
  refine outer (d := xs - x3) (u := ys - y3) (e := x1 - xt) (v := y1 - yt) (Cg.symm hc) (Cg.symm hc') hd he ?_ ?_
  · refine Cg.d (b := (Ys - Y3) * (Ys - Y3) * ((x1 - Xt) * (x1 - Xt)) - (Y1 - Yt) * (Y1 - Yt) * ((Xs - x3) * (Xs - x3)) - ((Xs + x3) - (x1 + Xt)) * ((Xs - x3) * (Xs - x3)) * ((x1 - Xt) * (x1 - Xt))) ?_ ?_
    · clear r1 r2 hP hQ hxs hys hxt hyt hc hc' hd he
      repeat' first | assumption | exact Cg.refl _ | apply Cg.sub | apply Cg.add | apply Cg.mul
    · rw [id_F x1 x2 x3 a b y2 Y1 Y3 Xs Ys Xt Yt E1 E3 EXs EYs EXt EYt]
      exact (r1.mul_l _).add (r2.mul_l _)
  · refine Cg.d (b := (x1 - Xt) * (Ys - Y3) * (x3 * ((Xs - x3) * (Xs - x3)) - ((Ys - Y3) * (Ys - Y3) - (Xs + x3) * ((Xs - x3) * (Xs - x3)))) - (Xs - x3) * (Y1 - Yt) * (x1 * ((Xs - x3) * (Xs - x3)) - ((Ys - Y3) * (Ys - Y3) - (Xs + x3) * ((Xs - x3) * (Xs - x3)))) - (Xs - x3) * ((Xs - x3) * (Xs - x3)) * (x1 - Xt) * (Y3 - Y1)) ?_ ?_
    · clear r1 r2 hP hQ hxs hys hxt hyt hc hc' hd he
      repeat' first | assumption | exact Cg.refl _ | apply Cg.sub | apply Cg.add | apply Cg.mul
    · rw [id_G x1 x2 x3 a b y2 Y1 Y3 Xs Ys Xt Yt E1 E3 EXs EYs EXt EYt]
      exact (r1.mul_l _).add (r2.mul_l _)

theorem nine_nd : ¬ D 9 := by intro h; have := Int.le_of_dvd (by decide) h; exact absurd this (by decide)

theorem tc_alg {x1 y1 x2 y2 a b c c' xs ys xt yt : Int} (hP : Sl x1 y1 x2 y2 a) (hQ : Sl x2 y2 xs ys b)
    (hxs : D (xs - (a * a - x1 - x2))) (hys : D (ys - (a * (x1 - xs) - y1))) (hxt : D (xt - (b * b - x2 - xs))) (hyt : D (yt - (b * (x2 - xt) - y2)))
    (hc : D (c * (ys + ys) - (xs * xs + xs * xs + xs * xs - 3))) (hc' : D (y1 - yt - c' * (x1 - xt))) (hd : ¬ D (2 * ys)) (he : ¬ D (x1 - xt)) :
    Cg (c * c - (xs + xs)) (c' * c' - (x1 + xt)) ∧ Cg (c * (xs - (c * c - (xs + xs))) - ys) (c' * (x1 - (c' * c' - (x1 + xt))) - y1) := by
  obtain ⟨Y1, E1⟩ : ∃ Y1, Y1 = y2 + a * (x1 - x2) := ⟨_, rfl⟩
  obtain ⟨Xs, EXs⟩ : ∃ Xs, Xs = a * a - x1 - x2 := ⟨_, rfl⟩
  obtain ⟨Ys, EYs⟩ : ∃ Ys, Ys = a * (x2 - Xs) - y2 := ⟨_, rfl⟩
  obtain ⟨Xt, EXt⟩ : ∃ Xt, Xt = b * b - x2 - Xs := ⟨_, rfl⟩
  obtain ⟨Yt, EYt⟩ : ∃ Yt, Yt = b * (x2 - Xt) - y2 := ⟨_, rfl⟩
  have c1 : Cg y1 Y1 := d_one (c := 1) (by rw [E1]; omega) hP.1
  have cxs : Cg xs Xs := by rw [EXs]; exact hxs
  have cys : Cg ys Ys := d_l3 (k := 1) (l := -1) (m := -a) (by rw [EYs, EXs]; clear hP hQ hxs hys hxt hyt hc hc' hd he; grind) hys hP.1 hxs
  have cxt : Cg xt Xt := d_lin (c := 1) (d := -1) (by rw [EXt, EXs]; omega) hxt hxs
  have cyt : Cg yt Yt := d_l3 (k := 1) (l := -b) (m := b) (by rw [EYt, EXt, EXs]; clear hP hQ hxs hys hxt hyt hc hc' hd he; grind) hyt hxt hxs
  have r1 : D (a * (2 * y2 + a * (x1 - x2)) - (x1 * x1 + x1 * x2 + x2 * x2 - 3)) :=
    d_lin (c := 1) (d := -a) (by clear hP hQ hxs hys hxt hyt hc hc' hd he; grind) hP.2 hP.1
  have s0 : D (Ys - y2 - b * (Xs - x2)) :=
    d_l3 (k := -1) (l := -1) (m := b) (by clear hP hQ hxs hys hxt hyt hc hc' hd he c1 r1; grind) hQ.1 (show D (ys - Ys) from cys) (show D (xs - Xs) from cxs)
  have hu : Cg (c * (2 * ys)) (3 * xs * xs - 3) := d_one (c := 1) (by clear hP hQ hxs hys hxt hyt hc hc' hd he c1 r1; grind) hc
  refine outer (d := 2 * ys) (u := 3 * xs * xs - 3) (e := x1 - xt) (v := y1 - yt) hu (Cg.symm hc') hd he ?_ ?_
  · refine Cg.d (b := (3 * Xs * Xs - 3) * (3 * Xs * Xs - 3) * ((x1 - Xt) * (x1 - Xt)) - (Y1 - Yt) * (Y1 - Yt) * ((2 * Ys) * (2 * Ys)) - ((Xs + Xs) - (x1 + Xt)) * ((2 * Ys) * (2 * Ys)) * ((x1 - Xt) * (x1 - Xt))) ?_ ?_
    · clear r1 s0 hu hP hQ hxs hys hxt hyt hc hc' hd he
      repeat' first | assumption | exact Cg.refl _ | apply Cg.sub | apply Cg.add | apply Cg.mul
    · have h9 := id_H x1 x2 a b y2 Y1 Xs Ys Xt Yt E1 EXs EYs EXt EYt
      refine (D.prod (a := 9) ?_).elim (fun h => absurd h nine_nd) id
      rw [h9]
      have g1 : D ((x2 - x1) * (Ys - y2 - b * (Xs - x2)) - (a + b) * (a * (2 * y2 + a * (x1 - x2)) - (x1 * x1 + x1 * x2 + x2 * x2 - 3))) :=
        d_lin (c := x2 - x1) (d := -(a + b)) (by rw [Int.neg_mul]; omega) s0 r1
      have g2 : D (-(Ys - y2 - b * (Xs - x2))) := d_one (c := -1) (by omega) s0
      exact ((g1.mul_l _).add (g2.mul_l _)).add (r1.mul_l _)
  · refine Cg.d (b := (x1 - Xt) * (3 * Xs * Xs - 3) * (Xs * ((2 * Ys) * (2 * Ys)) - ((3 * Xs * Xs - 3) * (3 * Xs * Xs - 3) - (Xs + Xs) * ((2 * Ys) * (2 * Ys)))) - (2 * Ys) * (Y1 - Yt) * (x1 * ((2 * Ys) * (2 * Ys)) - ((3 * Xs * Xs - 3) * (3 * Xs * Xs - 3) - (Xs + Xs) * ((2 * Ys) * (2 * Ys)))) - (2 * Ys) * ((2 * Ys) * (2 * Ys)) * (x1 - Xt) * (Ys - Y1)) ?_ ?_
    · clear r1 s0 hu hP hQ hxs hys hxt hyt hc hc' hd he
      repeat' first | assumption | exact Cg.refl _ | apply Cg.sub | apply Cg.add | apply Cg.mul
    · have h9 := id_K x1 x2 a b y2 Y1 Xs Ys Xt Yt E1 EXs EYs EXt EYt
      refine (D.prod (a := 9) ?_).elim (fun h => absurd h nine_nd) id
      rw [h9]
      have g1 : D ((x2 - x1) * (Ys - y2 - b * (Xs - x2)) - (a + b) * (a * (2 * y2 + a * (x1 - x2)) - (x1 * x1 + x1 * x2 + x2 * x2 - 3))) :=
        d_lin (c := x2 - x1) (d := -(a + b)) (by rw [Int.neg_mul]; omega) s0 r1
      have g2 : D (-(Ys - y2 - b * (Xs - x2))) := d_one (c := -1) (by omega) s0
      exact ((g1.mul_l _).add (g2.mul_l _)).add (r1.mul_l _)

end Go.Proofs.YtnabmdpgibnkaabDoor

namespace Go.Proofs.YtnabmdpgibnkaabDoor

/-- Where the sum of the first two is across from the third, the first is across from the sum of the others. -/
theorem opp_go {x1 y1 x2 y2 x3 y3 a xs ys xt yt : Int} (hp : Ok (some (x1, y1))) (hq : Ok (some (x2, y2))) (hr : Ok (some (x3, y3)))
    (hP : Sl x1 y1 x2 y2 a) (h23 : ¬ Op x2 y2 x3 y3) (hxs : D (xs - (a * a - x1 - x2))) (hys : D (ys - (a * (x1 - xs) - y1)))
    (hO : Op xs ys x3 y3) (hT : padd (some (x2, y2)) (some (x3, y3)) = some (xt, yt)) : Op x1 y1 xt yt := by
  obtain ⟨hO1, hO2⟩ := hO
  subst hO1
  have hys' : D (ys - (a * (x2 - xs) - y2)) := d_lin (c := 1) (d := -1) (by clear hp hq hr hP h23 hxs hys hT hO2; grind) hys hP.1
  have hxs' : D (xs - (a * a - x2 - x1)) := d_one (c := 1) (by omega) hxs
  have h3 := third (sl_symm hP) hxs' hys'
  have hS : Sl x2 y2 xs y3 a := by
    constructor
    · exact d_lin (c := 1) (d := -1) (by clear hp hq hr hP h23 hxs hys hT hO2 h3 hys' hxs'; grind) hys' hO2
    · exact d_lin (c := 1) (d := a) (by clear hp hq hr hP h23 hxs hys hT hO2 h3 hys' hxs'; grind) h3 hO2
  obtain ⟨x', y', e, hk, h1, h2⟩ := sl_sum hq hr h23 hS
  rw [hT] at e
  injection e with e
  injection e with ex ey
  subst ex
  subst ey
  have hx : x1 = xt := Cg.eq (show D (x1 - xt) from d_lin (c := 1) (d := -1) (by clear hp hq hr hP h23 hys hT hO2 h3 hys' hxs' hS h2; omega) hxs h1) hp.1 hk.1
  refine ⟨hx, ?_⟩
  rw [← hx] at h2
  exact d_lin (c := 1) (d := 1) (by clear hp hq hr hP h23 hxs hys hT hO2 h3 hys' hxs' hS h1 h2 hx; grind) hP.1 h2

theorem fin_x {x1 x3 c c' xs xt xu : Int} (hxu : D (xu - (c * c - xs - x3))) (X : Cg (c * c - (xs + x3)) (c' * c' - (x1 + xt))) : D (xu - (c' * c' - x1 - xt)) :=
  d_lin (c := 1) (d := 1) (by omega) hxu (show D (c * c - (xs + x3) - (c' * c' - (x1 + xt))) from X)
theorem fin_y {x1 y1 x3 y3 c c' xs ys xt xu yu : Int} (hc : D (ys - y3 - c * (xs - x3))) (hxu : D (xu - (c * c - xs - x3))) (hyu : D (yu - (c * (xs - xu) - ys)))
    (X : Cg (c * c - (xs + x3)) (c' * c' - (x1 + xt))) (Y : Cg (c * (x3 - (c * c - (xs + x3))) - y3) (c' * (x1 - (c' * c' - (x1 + xt))) - y1)) :
    D (yu - (c' * (x1 - xu) - y1)) := by
  have h2 := fin_x hxu X
  have h1 : D (yu - (c' * (x1 - xu) - y1) - c' * (xu - (c' * c' - x1 - xt))) :=
    d_l4 (k := 1) (l := -1) (m := -c) (n := 1) (by clear hc hxu hyu X Y h2; grind) hyu hc hxu (show D (c * (x3 - (c * c - (xs + x3))) - y3 - (c' * (x1 - (c' * c' - (x1 + xt))) - y1)) from Y)
  exact d_lin (c := 1) (d := c') (by omega) h1 h2

theorem nd_of {a b : Int} (h : ¬ D (a - b)) : ¬ D (b - a) := fun h' => h (d_one (c := -1) (by omega) h')

theorem padd_assoc : ∀ {p q r : Option (Int × Int)}, Ok p → Ok q → Ok r → padd (padd p q) r = padd p (padd q r)
  | none, q, r, _, _, _ => by rw [far_padd, far_padd]
  | some p, none, r, _, _, _ => by rw [padd_far, far_padd]
  | some p, some q, none, _, _, _ => by rw [padd_far, padd_far]
  | some (x1, y1), some (x2, y2), some (x3, y3), hp, hq, hr => by
    by_cases h12 : Op x1 y1 x2 y2
    · rw [op_none hp h12, far_padd]
      obtain ⟨h1, h2⟩ := h12
      subst h1
      exact (cancel hq hr hp h2).symm
    by_cases h23 : Op x2 y2 x3 y3
    · rw [op_none hq h23, padd_far, padd_comm (padd_ok hp hq) hr, padd_comm hp hq]
      obtain ⟨h1, h2⟩ := h23
      subst h1
      exact cancel hq hp hr (by rw [Int.add_comm]; exact h2)
    obtain ⟨a, hP⟩ := sl_ex hp hq h12
    obtain ⟨b, hQ⟩ := sl_ex hq hr h23
    obtain ⟨xs, ys, eS, kS, hxs, hys⟩ := sl_sum hp hq h12 hP
    obtain ⟨xt, yt, eT, kT, hxt, hyt⟩ := sl_sum hq hr h23 hQ
    have hys' : D (ys - (a * (x2 - xs) - y2)) := d_lin (c := 1) (d := -1) (by clear hp hq hr hP hQ h12 h23 eS eT kS kT hxs hys hxt hyt; grind) hys hP.1
    have hyt' : D (yt - (b * (x3 - xt) - y3)) := d_lin (c := 1) (d := -1) (by clear hp hq hr hP hQ h12 h23 eS eT kS kT hxs hys hxt hyt hys'; grind) hyt hQ.1
    have hxs' : D (xs - (a * a - x2 - x1)) := d_one (c := 1) (by omega) hxs
    have hxt' : D (xt - (b * b - x3 - x2)) := d_one (c := 1) (by omega) hxt
    rw [eS, eT]
    by_cases hO1 : Op xs ys x3 y3
    · rw [op_none kS hO1, op_none hp (opp_go hp hq hr hP h23 hxs hys hO1 eT)]
    have hO2 : ¬ Op x1 y1 xt yt := by
      intro h
      refine hO1 (op_symm (opp_go hr hq hp (sl_symm hQ) (fun h => h12 (op_symm h)) hxt' hyt' (op_symm h) ?_))
      rw [padd_comm hq hp]
      exact eS
    obtain ⟨c, hC⟩ := sl_ex kS hr hO1
    obtain ⟨c', hC'⟩ := sl_ex hp kT hO2
    obtain ⟨xu, yu, eU, kU, hxu, hyu⟩ := sl_sum kS hr hO1 hC
    rw [eU]
    have F : Cg (c * c - (xs + x3)) (c' * c' - (x1 + xt)) ∧ Cg (c * (x3 - (c * c - (xs + x3))) - y3) (c' * (x1 - (c' * c' - (x1 + xt))) - y1) := by
      by_cases e1 : xs = x3
      · subst e1
        have ey := same_y kS hr hO1
        subst ey
        by_cases e2 : x1 = xt
        · exfalso
          subst e2
          have ey := same_y hp kT hO2
          subst ey
          have h1 : D ((a - b) * (a + b)) := d_lin (c := -1) (d := 1) (by clear hp hq hr hP hQ h12 h23 eS eT kS kT hxs hys hxt hyt hys' hyt' hxs' hxt' hO1 hO2 hC hC' eU kU hxu hyu; grind) hxs hxt
          have h2 : D (2 * y2 - (a + b) * (x2 - x1)) := d_lin (c := -1) (d := 1) (by clear hp hq hr hP hQ h12 h23 eS eT kS kT hxs hys hxt hyt hys' hyt' hxs' hxt' hO1 hO2 hC hC' eU kU hxu hyu h1; grind) hP.1 hyt
          have h3 : D (2 * y1 - (a - b) * (x1 - x2)) := d_lin (c := 1) (d := 1) (by clear hp hq hr hP hQ h12 h23 eS eT kS kT hxs hys hxt hyt hys' hyt' hxs' hxt' hO1 hO2 hC hC' eU kU hxu hyu h1 h2; grind) hP.1 hyt
          rcases h1.prod with h | h
          · exact dbl_nd hp.2.2 (d_lin (c := 1) (d := x1 - x2) (by rw [Int.mul_comm (x1 - x2)]; omega) h3 h)
          · exact dbl_nd hq.2.2 (d_lin (c := 1) (d := x2 - x1) (by rw [Int.mul_comm (x2 - x1)]; omega) h2 h)
        · exact tc_alg hP hQ hxs hys hxt hyt hC.2 hC'.1 (dbl_nd kS.2.2) (cg_ne kT.1 hp.1 (fun e => e2 e.symm))
      · by_cases e2 : x1 = xt
        · subst e2
          have ey := same_y hp kT hO2
          subst ey
          have hx := tc_alg (c := c') (c' := c) (sl_symm hQ) (sl_symm hP) hxt' hyt' hxs' hys' hC'.2 (d_one (c := -1) (by clear hp hq hr hP hQ h12 h23 eS eT kS kT hxs hys hxt hyt hys' hyt' hxs' hxt' hO1 hO2 hC hC' eU kU hxu hyu; grind) hC.1 : D (y3 - ys - c * (x3 - xs))) (dbl_nd hp.2.2) (cg_ne kS.1 hr.1 e1)
          rw [Int.add_comm x3 xs] at hx
          exact ⟨hx.1.symm, hx.2.symm⟩
        · exact cc_alg hP hQ hxs hys hxt hyt hC.1 hC'.1 (cg_ne hr.1 kS.1 (fun e => e1 e.symm)) (cg_ne kT.1 hp.1 (fun e => e2 e.symm))
    exact (sl_pt hp kT hO2 hC' kU (fin_x hxu F.1) (fin_y hC.1 hxu hyu F.1 F.2)).symm

end Go.Proofs.YtnabmdpgibnkaabDoor

namespace Go.Proofs.YtnabmdpgibnkaabDoor

/-- A point, so many times. -/
def tms : Nat → Option (Int × Int) → Option (Int × Int)
  | 0, _ => none
  | n + 1, p => padd (tms n p) p
theorem tms_ok {p : Option (Int × Int)} (h : Ok p) : ∀ n, Ok (tms n p)
  | 0 => True.intro
  | n + 1 => padd_ok (tms_ok h n) h
theorem tms_none : ∀ n, tms n none = none
  | 0 => rfl
  | n + 1 => by rw [tms, tms_none n]; rfl
theorem tms_one (p : Option (Int × Int)) : tms 1 p = p := by rw [tms, tms, far_padd]
theorem tms_add {p : Option (Int × Int)} (h : Ok p) (m : Nat) : ∀ n, tms (m + n) p = padd (tms m p) (tms n p)
  | 0 => by rw [Nat.add_zero, tms, padd_far]
  | n + 1 => by
    show padd (tms (m + n) p) p = padd (tms m p) (padd (tms n p) p)
    rw [tms_add h m n, padd_assoc (tms_ok h m) (tms_ok h n) h]
theorem tms_mul {p : Option (Int × Int)} (h : Ok p) (n : Nat) : ∀ m, tms (m * n) p = tms m (tms n p)
  | 0 => by rw [Nat.zero_mul]; rfl
  | m + 1 => by rw [Nat.succ_mul, tms_add h, tms_mul h n m]; rfl
theorem tms_dbl {p : Option (Int × Int)} (h : Ok p) (m : Nat) : tms (2 * m) p = tms m (padd p p) := by
  have e : tms 2 p = padd p p := by rw [tms, tms_one]
  rw [Nat.mul_comm, tms_mul h, e]

/-- The number that these bits say. -/
def bn (b : Nat → Bool) : Nat → Nat
  | 0 => 0
  | i + 1 => 2 * bn b i + (if b i then 1 else 0)
theorem pmul_tms {b : Nat → Bool} {p : Option (Int × Int)} (h : Ok p) : ∀ i, pmul b p i = tms (bn b i) p
  | 0 => rfl
  | i + 1 => by
    rw [pmul, bn, pmul_tms h i]
    have e : tms (2 * bn b i) p = padd (tms (bn b i) p) (tms (bn b i) p) := by rw [Nat.two_mul, tms_add h]
    cases b i
    · rw [if_neg (by decide), if_neg (by decide), Nat.add_zero, e]
    · rw [if_pos rfl, if_pos rfl, tms, e]

/-- The sum of two triples, reduced; the times of a triple, bit by bit. -/
def trp (u v : Int × Int × Int) : Int × Int × Int :=
  (sX BB u.1 u.2.1 u.2.2 v.1 v.2.1 v.2.2 % PP, sY BB u.1 u.2.1 u.2.2 v.1 v.2.1 v.2.2 % PP, sZ BB u.1 u.2.1 u.2.2 v.1 v.2.1 v.2.2 % PP)
def pm : Nat → Nat → Int × Int × Int → Int × Int × Int → Int × Int × Int
  | 0, _, _, a => a
  | f + 1, e, t, a => match e % 2 with
    | 0 => pm f (e / 2) (trp t t) a
    | _ + 1 => pm f (e / 2) (trp t t) (trp a t)
theorem trp_rep {u v : Int × Int × Int} {p q : Option (Int × Int)} (hp : Ok p) (hq : Ok q) (hu : Rep u.1 u.2.1 u.2.2 p) (hv : Rep v.1 v.2.1 v.2.2 q) :
    Rep (trp u v).1 (trp u v).2.1 (trp u v).2.2 (padd p q) :=
  rep_cg (Cg.md _) (Cg.md _) (Cg.md _) (rep_sum hp hq hu hv)
theorem pm_rep : ∀ (f e : Nat) (t a : Int × Int × Int) (p q : Option (Int × Int)), e < 2 ^ f → Ok p → Ok q → Rep t.1 t.2.1 t.2.2 p → Rep a.1 a.2.1 a.2.2 q →
    Rep (pm f e t a).1 (pm f e t a).2.1 (pm f e t a).2.2 (padd q (tms e p))
  | 0, e, t, a, p, q, h, hp, hq, ht, ha => by
    have : e = 0 := by rw [Nat.pow_zero] at h; omega
    subst this
    rw [tms, padd_far]
    exact ha
  | f + 1, e, t, a, p, q, h, hp, hq, ht, ha => by
    have h2 : e / 2 < 2 ^ f := by rw [Nat.pow_succ] at h; omega
    have hd := Nat.div_add_mod e 2
    have hpp := padd_ok hp hp
    rw [pm]
    split
    · rename_i h0
      have ee : e = 2 * (e / 2) := by omega
      have IH := pm_rep f (e / 2) (trp t t) a (padd p p) q h2 hpp hq (trp_rep hp hp ht ht) ha
      rw [← tms_dbl hp, ← ee] at IH
      exact IH
    · rename_i n h0
      have ee : e = 2 * (e / 2) + 1 := by omega
      have IH := pm_rep f (e / 2) (trp t t) (trp a t) (padd p p) (padd q p) h2 hpp (padd_ok hq hp) (trp_rep hp hp ht ht) (trp_rep hq hp ha ht)
      rw [← tms_dbl hp, padd_assoc hq hp (tms_ok hp _), padd_comm hp (tms_ok hp _)] at IH
      have e2 : padd (tms (2 * (e / 2)) p) p = tms e p := by
        show tms (2 * (e / 2) + 1) p = _
        rw [← ee]
      rw [e2] at IH
      exact IH

theorem one_nd' : ¬ D 1 := by intro h; have := Int.le_of_dvd (by decide) h; exact absurd this (by decide)

/-- The base. -/
def gx : Int := 48439561293906451759052585252797914202762949526041747995844080717082404635286
def gy : Int := 36134250956749795798585127919587881956611106672985015071877198253568414405109
theorem g_ok : Ok (some (gx, gy)) := ⟨⟨by decide, by decide⟩, ⟨by decide, by decide⟩, Int.dvd_of_emod_eq_zero (by decide +kernel)⟩
theorem pm_n : (pm 256 NNat (gx, gy, 1) (0, 1, 0)).2.2 = 0 := by decide +kernel
theorem order_of {f e : Nat} {x y : Int} (hk : Ok (some (x, y))) (he : e < 2 ^ f) (hz : (pm f e (x, y, 1) (0, 1, 0)).2.2 = 0) : tms e (some (x, y)) = none := by
  have ht : Rep x y 1 (some (x, y)) := ⟨one_nd', Cg.of_eq (Int.mul_one x).symm, Cg.of_eq (Int.mul_one y).symm⟩
  have ha : Rep 0 1 0 none := ⟨⟨0, by omega⟩, one_nd', ⟨0, by omega⟩⟩
  have h := pm_rep f e (x, y, 1) (0, 1, 0) (some (x, y)) none he hk True.intro ht ha
  rw [hz, far_padd] at h
  generalize tms e (some (x, y)) = r at h ⊢
  match r, h with
  | none, _ => rfl
  | some (u, v), h => exact absurd (show D 0 from ⟨0, by omega⟩) h.1
theorem n_lt : NNat < 2 ^ 256 := by decide
theorem order_g : tms NNat (some (gx, gy)) = none := order_of g_ok n_lt pm_n
theorem order_all (k : Nat) : tms NNat (tms k (some (gx, gy))) = none := by
  rw [← tms_mul g_ok, Nat.mul_comm, tms_mul g_ok, order_g, tms_none]
theorem tms_mod (k : Nat) : tms (k % NNat) (some (gx, gy)) = tms k (some (gx, gy)) := by
  have h := Nat.div_add_mod k NNat
  have e : tms (NNat * (k / NNat) + k % NNat) (some (gx, gy)) = tms (k % NNat) (some (gx, gy)) := by
    rw [tms_add g_ok, Nat.mul_comm, tms_mul g_ok, order_g, tms_none, far_padd]
  rw [h] at e
  exact e.symm

end Go.Proofs.YtnabmdpgibnkaabDoor

namespace Go.Proofs.YtnabmdpgibnkaabDoor

theorem bn_in (K : List Int) (hd : Dg 256 K) (j : Nat) : ∀ c, c ≤ 8 → ((bn (kbit K) (8 * j + c) : Nat) : Int) = (bn (kbit K) (8 * j) : Nat) * 2 ^ c + K.getD j 0 / 2 ^ (8 - c)
  | 0, _ => by
    have hx := hd.at (by decide) j
    have e : K.getD j 0 / 2 ^ (8 - 0) = 0 := Int.ediv_eq_zero_of_lt hx.1 hx.2
    rw [e, Int.pow_zero, Int.mul_one, Nat.add_zero, Int.add_zero]
  | c + 1, hc => by
    have IH := bn_in K hd j c (by omega)
    have hx := hd.at (by decide) j
    have ek : kbit K (8 * j + c) = decide (K.getD j 0 / 2 ^ (7 - c) % 2 = 1) := by
      unfold kbit
      rw [show (8 * j + c) / 8 = j by omega, show (8 * j + c) % 8 = c by omega]
    have es : K.getD j 0 / 2 ^ (8 - c) = K.getD j 0 / 2 ^ (7 - c) / 2 := by
      rw [Int.ediv_ediv_of_nonneg (Int.le_of_lt (Int.pow_pos (by decide))), ← Int.pow_succ, show (7 - c).succ = 8 - c by omega]
    rw [es] at IH
    rw [show 8 * j + (c + 1) = (8 * j + c) + 1 by omega, bn, ek, show 8 - (c + 1) = 7 - c by omega, Int.pow_succ]
    generalize K.getD j 0 / 2 ^ (7 - c) = y at *
    rw [← Int.mul_assoc]
    generalize ((bn (kbit K) (8 * j) : Nat) : Int) * 2 ^ c = z at *
    by_cases h : y % 2 = 1
    · rw [decide_eq_true h, if_pos rfl]
      omega
    · rw [decide_eq_false h, if_neg (by decide)]
      omega
theorem bn_take (K : List Int) (hd : Dg 256 K) : ∀ j, j ≤ K.length → ((bn (kbit K) (8 * j) : Nat) : Int) = dn (K.take j)
  | 0, _ => by rw [List.take_zero]; rfl
  | j + 1, hj => by
    have IH := bn_take K hd j (by omega)
    have h := bn_in K hd j 8 (by omega)
    have e1 : K.getD j 0 / 2 ^ (8 - 8) = K.getD j 0 := Int.ediv_one _
    rw [e1] at h
    have e2 : K.take (j + 1) = K.take j ++ [K.getD j 0] := by
      rw [List.take_add_one]
      simp [List.getD, show j < K.length by omega]
    have e3 : dn (K.take (j + 1)) = K.getD j 0 + 256 * dn (K.take j) := by
      unfold dn
      rw [e2, List.reverse_append]
      rfl
    rw [e3, ← IH, show 8 * (j + 1) = 8 * j + 8 by omega, h]
    omega
theorem pmul_dn {K : List Int} (hd : Dg 256 K) (hl : K.length = 32) {p : Option (Int × Int)} (h : Ok p) : pmul (kbit K) p 256 = tms (dn K).toNat p := by
  have h1 := bn_take K hd 32 (by omega)
  rw [← hl, List.take_length] at h1
  rw [hl] at h1
  rw [pmul_tms h 256]
  have e : bn (kbit K) 256 = (dn K).toNat := by
    rw [← h1]
    rfl
  rw [e]

end Go.Proofs.YtnabmdpgibnkaabDoor
